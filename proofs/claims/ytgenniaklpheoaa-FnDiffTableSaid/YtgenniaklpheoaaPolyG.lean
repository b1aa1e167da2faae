/-
  DifferencePoly: the program and the model, at every argument. Condition: slices of at most 1048576 numbers.
-/
import Derived.Test.YtgenniaklpheoaaPolyT
namespace Go.Proofs.Ytgenniaklpheoaa
set_option maxRecDepth 4000
open Go.RowKit
/-- What DifferencePoly answers. -/
def diffA (zs : List Int) : List Int := if polyOk zs then (if zs.length = 1 then [0] else zs.tail) else []
theorem diffA_len (zs : List Int) : (diffA zs).length ≤ 1048576 := by
  unfold diffA
  split
  · rename_i h
    have h7 := (polyOk_small _ h).2.1
    split
    · simp
    · rw [List.length_tail]; omega
  · simp
theorem row_lit1 (w : World) (x : Int) (t : Nat) : Row (w.alloc (.cells #[.int .i64 x] t)) w.heap.size (w.alloc (.cells #[.int .i64 x] t)).heap.size (.slice (some ⟨w.heap.size, 0, none⟩) 1 1) [x] :=
  (Blk.lit w t [x]).row (Nat.le_refl _) (by simp) (Nat.le_refl _) (show 1 ≤ maxLen by unfold maxLen; decide) rfl
theorem difference_any (v : Value) (zs : List Int) (w : World) (lo hi : Nat) (hv : Lies w lo hi v zs) : Calls Try.prog 17 #[v] w (NewRow (diffA zs) w) := by
  have HV := hidH hv
  clear hv
  cases h : polyOk zs
  · have HE := hidH (show diffA zs = [] by rw [diffA, h]; rfl)
    have HZ := hidH h
    clear h
    go_enter Try.func17, Try.ntmps17
    go_wp2_with fail
    refine (polyValid_any v zs _ _ _ HV.out).mono ?_; rintro e w1 ⟨rfl, hb⟩
    rw [HZ.out]
    go_wp2_with fail
    go_ret
    rw [HE.out]
    exact ⟨_, rfl, Row.nil _ _ _ _ _ (Nat.zero_le _) (fun _ => rfl), hb⟩
  · have ⟨h1, hs⟩ := polyOk_small _ h
    have h7 := hs.1
    have HZ := hidH h
    have HE := hidH (show diffA zs = if zs.length = 1 then [0] else zs.tail by rw [diffA, h]; rfl)
    clear h hs
    go_enter Try.func17, Try.ntmps17
    go_wp2_with fail
    refine (polyValid_any v zs _ _ _ HV.out).mono ?_; rintro e w1 ⟨rfl, hb⟩
    rw [HZ.out]
    have HB := hidH hb
    obtain ⟨b, off, cap, rfl, hlc, hcm, hl1, hh1, hbw, hcell⟩ := (HV.out.below hb).addr (by omega)
    have HC := hidH hcell
    clear hb hcell
    unfold maxLen at hcm
    by_cases hone : zs.length = 1
    · have HF := hidH (show diffA zs = [0] by rw [HE.out, if_pos hone])
      have hone' : (zs.length : Int) = 1 := by omega
      have HRL := hidH (row_lit1 w1 0 3)
      clear hone
      go_wp2_with fail
      go_ret
      rw [HF.out]
      exact ⟨_, rfl, HRL.out.mono HB.out.size (Nat.le_refl _), HB.out.trans (((Below.refl _ _).alloc (Nat.le_refl _) _).mono HB.out.size)⟩
    · have HF := hidH (show diffA zs = zs.drop 1 by rw [HE.out, if_neg hone]; simp)
      have hob : ((zs.length : Int) == 1) = false := beq_eq_false_iff_ne.2 (by omega)
      have hge : 2 ≤ zs.length := by omega
      have hcl := clone_any (.slice (some ⟨b, off + 1, none⟩) (zs.length - 1) (cap - 1)) (zs.drop 1) w1 lo hi (lies_drop 1 _ _ rfl rfl hlc (by unfold maxLen; omega) hl1 hh1 HC.out) (by rw [List.length_drop]; omega) (by rw [List.length_drop]; omega)
      have hnc : ¬ cap = 1 := by omega
      have HCL := hidH hcl
      clear hcl hone
      go_wp2_with (go_at_call 52; refine HCL.out.mono ?_; rintro e w2 ⟨v', rfl, hr, hb⟩)
      go_ret
      rw [HF.out]
      exact ⟨v', rfl, hr.mono HB.out.size (Nat.le_refl _), HB.out.trans (hb.mono HB.out.size)⟩
end Go.Proofs.Ytgenniaklpheoaa
