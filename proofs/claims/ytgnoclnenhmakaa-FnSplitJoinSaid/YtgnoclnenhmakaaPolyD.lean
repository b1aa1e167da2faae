/-
  TrimPoly, DegreeOf and DifferencePoly: the program and the model, at every argument. Condition: slices of at most 1048576 numbers.
-/
import Derived.Test.YtgnoclnenhmakaaPolyT
namespace Go.Proofs.Ytgnoclnenhmakaa
set_option maxRecDepth 4000
open Go.RowKit
/-- What TrimPoly answers. -/
def trimA (zs : List Int) : List Int := if polyOk zs then trimL zs else []
theorem trimA_len (zs : List Int) : (trimA zs).length ≤ 1048576 := by
  unfold trimA
  split
  · rename_i h
    have h7 := (polyOk_small _ h).2.1
    have := trimTo_le zs zs.length
    rw [trimL_length]; omega
  · simp
theorem trim_any (v : Value) (zs : List Int) (w : World) (lo hi : Nat) (hv : Lies w lo hi v zs) : Calls Try.prog 57 #[v] w (NewRow (trimA zs) w) := by
  unfold trimA
  cases h : polyOk zs
  · exact trim_no v zs w lo hi hv h
  · exact trim_yes v zs w lo hi hv h
theorem trimTo_tail (zs : List Int) (n : Nat) (hn : n ≤ zs.length) : (∀ j, trimTo zs n ≤ j → j < n → zs.getD j 0 = 0) ∧ (2 ≤ trimTo zs n → zs.getD (trimTo zs n - 1) 0 ≠ 0) := by
  induction n with
  | zero => exact ⟨fun j _ h => by omega, fun h => by simp [trimTo] at h⟩
  | succ n ih =>
    cases n with
    | zero => exact ⟨fun j a h => by simp [trimTo] at a; omega, fun h => by simp [trimTo] at h⟩
    | succ n =>
      have ih := ih (by omega)
      rw [trimTo]
      split
      · rename_i h
        refine ⟨fun j a b => ?_, ih.2⟩
        by_cases e : j = n + 1
        · subst e; exact h
        · exact ih.1 j a (by omega)
      · rename_i h
        exact ⟨fun j a b => by omega, fun _ => h⟩
theorem zero_trim (zs : List Int) (h0 : 0 < zs.length) : zeroOk zs = decide (trimTo zs zs.length = 1 ∧ zs.getD 0 0 = 0) := by
  have ⟨h1, h2⟩ := trimTo_tail zs zs.length (Nat.le_refl _)
  have hp := trimTo_pos zs zs.length h0
  have hle := trimTo_le zs zs.length
  rw [Bool.eq_iff_iff, decide_eq_true_eq, zeroOk]
  simp only [Bool.not_eq_true', List.any_eq_false, bne_iff_ne, ne_eq, Decidable.not_not]
  constructor
  · intro h
    have hz : ∀ j, zs.getD j 0 = 0 := fun j => by
      rw [List.getD_eq_getElem?_getD]
      cases hj : zs[j]? with
      | none => rfl
      | some z => exact h z (List.mem_of_getElem? hj)
    refine ⟨?_, hz 0⟩
    apply Classical.byContradiction
    intro hne
    exact h2 (by omega) (hz _)
  · rintro ⟨a, b⟩ x hx
    obtain ⟨j, hj, rfl⟩ := List.getElem_of_mem hx
    have e : zs.getD j 0 = zs[j] := by rw [List.getD_eq_getElem?_getD, List.getElem?_eq_getElem hj]; rfl
    rw [← e]
    by_cases hj0 : j = 0
    · rw [hj0]; exact b
    · exact h1 j (by omega) hj
/-- What DegreeOf answers. -/
def degL (zs : List Int) : Int := if polyOk zs then (if zeroOk zs then -1 else (trimTo zs zs.length : Int) - 1) else -2
theorem degree_any (v : Value) (zs : List Int) (w : World) (lo hi : Nat) (hv : Lies w lo hi v zs) : Calls Try.prog 27 #[v] w (Gives (.int .i64 (degL zs)) w) := by
  have HV := hidH hv
  clear hv
  cases h : polyOk zs
  · have HE := hidH (show degL zs = -2 by rw [degL, h]; rfl)
    have HZ := hidH h
    clear h
    go_enter Try.func27, Try.ntmps27
    go_wp2_with fail
    refine (polyValid_any v zs _ _ _ HV.out).mono ?_; rintro e w1 ⟨rfl, hb⟩
    rw [HZ.out]
    go_wp2_with fail
    go_ret
    exact ⟨by rw [HE.out]; rfl, hb⟩
  · cases h2 : zeroOk zs
    · have HE := hidH (show degL zs = (trimTo zs zs.length : Int) - 1 by rw [degL, h, h2]; rfl)
      have h7 := (polyOk_small _ h).2.1
      have hle := trimTo_le zs zs.length
      have HZ := hidH h
      have HO := hidH h2
      clear h h2
      go_enter Try.func27, Try.ntmps27
      go_wp2_with fail
      refine (polyValid_any v zs _ _ _ HV.out).mono ?_; rintro e w1 ⟨rfl, hb⟩
      rw [HZ.out]
      have HB := hidH hb
      have HV1 := hidH (HV.out.below hb)
      clear hb
      go_wp2_with fail
      refine (allZero_any v zs _ _ _ HV1.out).mono ?_; rintro e w2 ⟨rfl, rfl⟩
      rw [HO.out]
      go_wp2_with fail
      refine (trim_yes v zs _ _ _ HV1.out HZ.out).mono ?_; rintro e w2 ⟨v1, rfl, ⟨a, cap, rfl, _⟩, hb⟩
      have HB2 := hidH (HB.out.trans (hb.mono HB.out.size))
      clear hb
      have HTL := hidH (trimL_length zs)
      rw [HTL.out]
      go_wp2_with fail
      go_ret
      exact ⟨by rw [HE.out]; rfl, HB2.out⟩
    · have HE := hidH (show degL zs = -1 by rw [degL, h, h2]; rfl)
      have HZ := hidH h
      have HO := hidH h2
      clear h h2
      go_enter Try.func27, Try.ntmps27
      go_wp2_with fail
      refine (polyValid_any v zs _ _ _ HV.out).mono ?_; rintro e w1 ⟨rfl, hb⟩
      rw [HZ.out]
      have HB := hidH hb
      have HV1 := hidH (HV.out.below hb)
      clear hb
      go_wp2_with fail
      refine (allZero_any v zs _ _ _ HV1.out).mono ?_; rintro e w2 ⟨rfl, rfl⟩
      rw [HO.out]
      go_wp2_with fail
      go_ret
      exact ⟨by rw [HE.out]; rfl, HB.out⟩
end Go.Proofs.Ytgnoclnenhmakaa
