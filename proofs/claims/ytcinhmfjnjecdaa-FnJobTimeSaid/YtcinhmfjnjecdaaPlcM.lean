/-
  Mathematics of places: pages, columns and rows of a layout. No conditions.
-/
import Derived.Test.YtcinhmfjnjecdaaBase
namespace Go.Proofs.Ytcinhmfjnjecdaa
set_option maxRecDepth 4000
open Go.RowKit
/-- A layout is valid. -/
def layOk (R A W : Int) : Bool := decide ((1 : Int) ≤ R ∧ R ≤ 20) && (decide ((1 : Int) ≤ A ∧ A ≤ 6) && decide ((1 : Int) ≤ W ∧ W ≤ 12))
theorem layOk_iff (R A W : Int) : layOk R A W = true ↔ (1 ≤ R ∧ R ≤ 20) ∧ (1 ≤ A ∧ A ≤ 6) ∧ (1 ≤ W ∧ W ≤ 12) := by
  unfold layOk
  rw [Bool.and_eq_true, Bool.and_eq_true, decide_eq_true_eq, decide_eq_true_eq, decide_eq_true_eq]
/-- The places of a page. -/
theorem places_bd (R A : Int) (h1 : 1 ≤ R) (h2 : R ≤ 20) (h3 : 1 ≤ A) (h4 : A ≤ 6) : 1 ≤ A * R ∧ A * R ≤ 120 ∧ R ≤ A * R := by
  have a1 : A * R ≤ A * 20 := Int.mul_le_mul_of_nonneg_left h2 (by omega)
  have a2 : 1 * R ≤ A * R := Int.mul_le_mul_of_nonneg_right h3 (by omega)
  omega
/-- What PagesNeeded answers. -/
def cntOk6 (c : Int) : Bool := decide ((0 : Int) ≤ c ∧ c ≤ 60)
def pagesA (R A W c : Int) : Int := if layOk R A W && cntOk6 c then (c + A * R - 1) / (A * R) else -1
def idxOk (k : Int) : Bool := decide ((0 : Int) ≤ k ∧ k ≤ 59)
/-- What PlaceOf answers. -/
def plB (R A W k : Int) : Bool := layOk R A W && idxOk k
def plP (R A W k : Int) : Int := if plB R A W k then k / (A * R) else 0
def plR (R A W k : Int) : Int := if plB R A W k then k % (A * R) % R else 0
def plC (R A W k : Int) : Int := if plB R A W k then k % (A * R) / R else 0
/-- What IndexOfPlace answers. -/
def inPl (R A W p r c : Int) : Bool := layOk R A W && (decide ((0 : Int) ≤ p ∧ p ≤ 59) && (decide ((0 : Int) ≤ r ∧ r ≤ R - 1) && decide ((0 : Int) ≤ c ∧ c ≤ A - 1)))
def ixA (R A W p r c : Int) : Int := if inPl R A W p r c then (if p * (A * R) + c * R + r < 60 then p * (A * R) + c * R + r else -1) else -1
/-- The place of an entry is its place. -/
theorem split_place (R P k : Int) (hR : 1 ≤ R) (hP : 1 ≤ P) : k / P * P + k % P / R * R + k % P % R = k ∧ 0 ≤ k % P ∧ k % P < P ∧ 0 ≤ k % P % R ∧ k % P % R < R := by
  have h1 := Int.mul_ediv_add_emod k P
  have h2 := Int.mul_ediv_add_emod (k % P) R
  have h3 := Int.emod_nonneg k (show P ≠ 0 by omega)
  have h4 := Int.emod_lt_of_pos k (show 0 < P by omega)
  have h5 := Int.emod_nonneg (k % P) (show R ≠ 0 by omega)
  have h6 := Int.emod_lt_of_pos (k % P) (show 0 < R by omega)
  rw [Int.mul_comm (k / P) P, Int.mul_comm (k % P / R) R]
  omega
theorem col_bd (R A r : Int) (hR : 1 ≤ R) (h0 : 0 ≤ r) (h : r < A * R) : 0 ≤ r / R ∧ r / R < A :=
  ⟨Int.ediv_nonneg h0 (by omega), Int.ediv_lt_of_lt_mul (by omega) h⟩
/-- A place in a page is found again. -/
theorem join_place (R A p r c : Int) (hR : 1 ≤ R) (r0 : 0 ≤ r) (r1 : r < R) (c0 : 0 ≤ c) (c1 : c < A) : (p * (A * R) + c * R + r) / (A * R) = p ∧ (p * (A * R) + c * R + r) % (A * R) = c * R + r ∧ (c * R + r) % R = r ∧ (c * R + r) / R = c ∧ 0 ≤ c * R + r ∧ c * R + r < A * R := by
  have hc0 : 0 ≤ c * R := Int.mul_nonneg c0 (by omega)
  have hc1 : (c + 1) * R ≤ A * R := Int.mul_le_mul_of_nonneg_right (by omega) (by omega)
  rw [Int.add_mul, Int.one_mul] at hc1
  have hb : 0 ≤ c * R + r ∧ c * R + r < A * R := by omega
  have e1 := (Int.ediv_emod_unique (a := p * (A * R) + c * R + r) (b := A * R) (q := p) (r := c * R + r) (by omega)).2 ⟨by rw [Int.mul_comm (A * R) p]; omega, hb.1, hb.2⟩
  have e2 := (Int.ediv_emod_unique (a := c * R + r) (b := R) (q := c) (r := r) (by omega)).2 ⟨by rw [Int.mul_comm R c]; omega, r0, r1⟩
  exact ⟨e1.1, e1.2, e2.2, e2.1, hb.1, hb.2⟩
theorem pages_last (k P : Int) (hP : 1 ≤ P) : (k + 1 + P - 1) / P = k / P + 1 := by
  rw [show k + 1 + P - 1 = k + 1 * P by omega, Int.add_mul_ediv_right _ _ (by omega)]
end Go.Proofs.Ytcinhmfjnjecdaa
