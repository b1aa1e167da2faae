/-
  IndexOfPlace: the program, at every argument. No conditions.
-/
import Derived.Test.YtcinhmfjnjecdaaPlcA
namespace Go.Proofs.Ytcinhmfjnjecdaa
set_option maxRecDepth 4000
open Go.RowKit
theorem inPl_of (R A W p r c k : Int) (h : plB R A W k = true) (e1 : plP R A W k = p) (e2 : plR R A W k = r) (e3 : plC R A W k = c) : inPl R A W p r c = true ∧ p * (A * R) + c * R + r = k := by
  have h' := h
  unfold plB at h'
  rw [Bool.and_eq_true] at h'
  have ⟨k1, k2⟩ := of_decide_eq_true h'.2
  have ⟨⟨r1, r2⟩, ⟨a1, a2⟩, _⟩ := (layOk_iff R A W).1 h'.1
  have ⟨p1, p2, p3⟩ := places_bd R A r1 r2 a1 a2
  have ⟨s1, s2, s3, s4, s5⟩ := split_place R (A * R) k r1 p1
  have ⟨s6, s7⟩ := col_bd R A (k % (A * R)) r1 s2 s3
  have s8 : 0 ≤ k / (A * R) := Int.ediv_nonneg k1 (by omega)
  have s9 : k / (A * R) ≤ k := Int.ediv_le_self _ k1
  unfold plP at e1
  unfold plR at e2
  unfold plC at e3
  rw [h] at e1 e2 e3
  rw [if_pos rfl] at e1 e2 e3
  rw [e1] at s1 s8 s9
  rw [e2] at s1 s4 s5
  rw [e3] at s1 s6 s7
  refine ⟨?_, s1⟩
  unfold inPl
  rw [h'.1, decide_eq_true (show (0 : Int) ≤ p ∧ p ≤ 59 by omega), decide_eq_true (show (0 : Int) ≤ r ∧ r ≤ R - 1 by omega), decide_eq_true (show (0 : Int) ≤ c ∧ c ≤ A - 1 by omega)]
  rfl
theorem pl_of (R A W p r c : Int) (h : inPl R A W p r c = true) : (p * (A * R) + c * R + r < 60 → plB R A W (p * (A * R) + c * R + r) = true ∧ plP R A W (p * (A * R) + c * R + r) = p ∧ plR R A W (p * (A * R) + c * R + r) = r ∧ plC R A W (p * (A * R) + c * R + r) = c) ∧ (¬ p * (A * R) + c * R + r < 60 → plB R A W (p * (A * R) + c * R + r) = false) ∧ 0 ≤ p * (A * R) ∧ p * (A * R) ≤ 7080 ∧ 0 ≤ c * R ∧ c * R ≤ 120 ∧ 0 ≤ r ∧ r ≤ 20 := by
  unfold inPl at h
  rw [Bool.and_eq_true, Bool.and_eq_true, Bool.and_eq_true] at h
  obtain ⟨hl, hp, hr, hc⟩ := h
  have ⟨⟨r1, r2⟩, ⟨a1, a2⟩, _⟩ := (layOk_iff R A W).1 hl
  have ⟨p1, p2, p3⟩ := places_bd R A r1 r2 a1 a2
  have ⟨p4, p5⟩ := of_decide_eq_true hp
  have ⟨q4, q5⟩ := of_decide_eq_true hr
  have ⟨c4, c5⟩ := of_decide_eq_true hc
  have ⟨j1, j2, j3, j4, j5, j6⟩ := join_place R A p r c r1 q4 (by omega) c4 (by omega)
  have n1 : 0 ≤ p * (A * R) := Int.mul_nonneg p4 (by omega)
  have n2 : p * (A * R) ≤ 59 * (A * R) := Int.mul_le_mul_of_nonneg_right p5 (by omega)
  have n3 : 0 ≤ c * R := Int.mul_nonneg c4 (by omega)
  refine ⟨fun h => ?_, fun h => ?_, n1, by omega, n3, by omega, q4, by omega⟩
  · have hb : plB R A W (p * (A * R) + c * R + r) = true := by
      unfold plB idxOk
      rw [hl, decide_eq_true (show (0 : Int) ≤ p * (A * R) + c * R + r ∧ p * (A * R) + c * R + r ≤ 59 by omega)]; rfl
    refine ⟨hb, ?_, ?_, ?_⟩
    · unfold plP; rw [hb, if_pos rfl, j1]
    · unfold plR; rw [hb, if_pos rfl, j2, j3]
    · unfold plC; rw [hb, if_pos rfl, j2, j4]
  · unfold plB idxOk
    rw [hl, decide_eq_false (show ¬ ((0 : Int) ≤ p * (A * R) + c * R + r ∧ p * (A * R) + c * R + r ≤ 59) by omega)]; rfl
end Go.Proofs.Ytcinhmfjnjecdaa
