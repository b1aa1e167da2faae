/-
  The walk of a law: a shifted polynomial has the values as many arguments later and the same highest difference, and shifting it back restores it. No conditions but that the bytes that came in can be read.
-/
import Derived.Test.YtgnoclnenhmakaaPolyLe
import Derived.Test.YtgnoclnenhmakaaPolyLc
import Derived.Test.YtgnoclnenhmakaaPolyNewton
namespace Go.Proofs.Ytgnoclnenhmakaa
set_option maxRecDepth 4000
open Go.RowKit
/-- The comparison of two slices that hold the same, which only reads. -/
theorem deInts_quiet (v u : Value) (zs : List Int) (w : World) (l1 h1 l2 h2 : Nat) (hv : Lies w l1 h1 v zs) (hu : Lies w l2 h2 u zs) : Calls Try.prog 19 #[v, u] w fun e w' => e = .returned (.bool true) ∧ ∃ q, w' = w.drewN q := by
  obtain ⟨a, cap, rfl, hlc, hcm, hnil, hcell⟩ := hv
  obtain ⟨a2, cap2, rfl, hlc2, hcm2, hnil2, hcell2⟩ := hu
  unfold maxLen at hcm hcm2
  have HC := hidH hcell
  have HC2 := hidH hcell2
  clear hcell hnil hcell2 hnil2
  go_enter Try.func19, Try.ntmps19
  go_wp2
  go_loopw [5] (fun i wr => ∃ k : Nat, k ≤ zs.length ∧ i = .int .i64 k ∧ ∃ q, wr = w.drewN q) (fun i _ => zs.length - (intOf i).toNat)
  case atStart => exact ⟨0, Nat.zero_le _, rfl, 0, rfl⟩
  case round =>
    obtain ⟨k, hk, rfl, hb⟩ := hrel
    have Hb := hidH hb
    clear hb
    by_cases hlt : k < zs.length
    · obtain ⟨z, hz⟩ := get_lt zs k hlt
      obtain ⟨b, off, rfl, _, _, hc⟩ := HC.out k z hz
      obtain ⟨b2, off2, rfl, _, _, hc2⟩ := HC2.out k z hz
      have hcw : wr.cell? ⟨b, off + k, none⟩ = some (.int .i64 z) := by obtain ⟨q, rfl⟩ := Hb.out; exact hc
      have hcw2 : wr.cell? ⟨b2, off2 + k, none⟩ = some (.int .i64 z) := by obtain ⟨q, rfl⟩ := Hb.out; exact hc2
      clear hz hc hc2
      go_wp2
      go_quiet (fail)
      go_wp2
      go_roundw
      case rel => exact ⟨k + 1, by omega, by go_num, by obtain ⟨q, rfl⟩ := Hb.out; exact ⟨q + nq, by rw [World.drewN_drewN]⟩⟩
      case measure => simp [intOf]; omega
    · obtain rfl : k = zs.length := by omega
      go_wp2
      go_ret
      exact ⟨rfl, Hb.out⟩
theorem newt_shift (L : Nat) (p : List Int) (n : Int) : newt L (fun m => evP p (m + n)) = shiftL p n L := by
  induction L generalizing p with
  | zero => rfl
  | succ L ih =>
    have e : Dl (fun m => evP p (m + n)) = fun m => evP p.tail (m + n) := funext fun m => by
      simp only [Dl]
      rw [show m + 1 + n = m + n + 1 by omega, evP_step]
      omega
    rw [newt, e, ih]
    unfold shiftL
    rw [List.range_succ_eq_map, List.map_cons, List.map_map]
    simp [Function.comp_def]
theorem ev_shift (p : List Int) (n m : Int) : evP (shiftL p n p.length) m = evP p (m + n) := by
  rw [← newt_shift]
  exact newt_eq p.length _ (top_shift (top_ev p) n) m
theorem shift_back (p : List Int) (n : Int) : shiftL (shiftL p n p.length) (-n) p.length = p := by
  have hl : (shiftL p n p.length).length = p.length := shiftL_length _ _ _
  refine ev_inj (by rw [shiftL_length]) fun m => ?_
  have h := ev_shift (shiftL p n p.length) (-n) m
  rw [hl] at h
  rw [h, ev_shift]
  congr 1
  omega
theorem shift_last (p : List Int) (n : Int) (m : Nat) (x : Int) (hm : p.length = m + 1) (hx : p[m]? = some x) : (shiftL p n p.length)[m]? = some x := by
  rw [shiftL_get _ _ _ _ (by omega)]
  have e : p.drop m = [x] := by
    obtain ⟨h1, h2⟩ := List.getElem?_eq_some_iff.1 hx
    rw [List.drop_eq_getElem_cons h1, h2, List.drop_eq_nil_of_le (by omega)]
  rw [e]
  simp [evP, ev, chN]
theorem shift_val (zs : List Int) (n m : Int) (hz : polyOk zs = true) (hs : polyOk (shiftL zs n zs.length) = true) (h1 : -200 ≤ m + n) (h2 : m + n ≤ 200) (h3 : -200 ≤ m) (h4 : m ≤ 200) : evA (shiftL zs n zs.length) m = evA zs (m + n) := by
  rw [evA_ok _ _ hs h3 h4, evA_ok _ _ hz h1 h2, ev_shift]
end Go.Proofs.Ytgnoclnenhmakaa
