/-
  The walk of a law: a number has columns of exactly those widths that are not smaller than the width for it. No conditions but that the bytes that came in can be read.
-/
import Derived.Test.YtgafhkjcdddhcaaDoorKitA
import Derived.Test.YtgafhkjcdddhcaaDoorWidthFor
namespace Go.Proofs.YtgafhkjcdddhcaaDoor
set_option maxRecDepth 4000
open Go.RowKit
/-- The numbers of which one is drawn. -/
def edges : List Int := [0, 4, 5, -5, -6, 49, 50, -50, -51, 499999999999, 500000000000, -500000000000, -500000000001, 9223372036854775807, -9223372036854775808]
/-- A drawn number. -/
def Num1 (r B : Nat) (w : World) (e : Ending) (w' : World) : Prop := ∃ z : Int, e = .returned (.int .i64 z) ∧ Rd w' r (B + 4) ∧ Onto r w w'
/-- A number drawn for WidthFor. -/
def Drawn1 (w : World) (e : Ending) (w' : World) : Prop := ∃ z : Int, e = .returned (.int .i64 z) ∧ Below w.heap.size w w'
/-- ColumnOf has an answer exactly at the widths from the least one on. -/
theorem half_mono (a b : Nat) (h : a ≤ b) : tenP a / 2 ≤ tenP b / 2 := by
  have := tenP_mono a b h
  omega
theorem fits_mono (n : Int) (a b : Nat) (h : a ≤ b) (hf : fits n a = true) : fits n b = true := by
  have := half_mono a b h
  rw [fits_iff] at *
  omega
theorem leastW_spec (n : Int) (k d : Nat) : (leastW n k d = 0 ∧ ∀ j, k ≤ j → j < k + d → fits n j = false) ∨ (k ≤ leastW n k d ∧ leastW n k d < k + d ∧ fits n (leastW n k d) = true ∧ ∀ j, k ≤ j → j < leastW n k d → fits n j = false) := by
  induction d generalizing k with
  | zero => left; exact ⟨rfl, fun j h1 h2 => by omega⟩
  | succ d ih =>
    rw [leastW]
    cases hf : fits n k
    · rw [if_neg (by decide)]
      rcases ih (k + 1) with ⟨h1, h2⟩ | ⟨h1, h2, h3, h4⟩
      · left
        refine ⟨h1, fun j g1 g2 => ?_⟩
        by_cases e : j = k
        · subst e; exact hf
        · exact h2 j (by omega) (by omega)
      · right
        refine ⟨by omega, by omega, h3, fun j g1 g2 => ?_⟩
        by_cases e : j = k
        · subst e; exact hf
        · exact h4 j (by omega) g2
    · rw [if_pos rfl]
      right
      exact ⟨Nat.le_refl _, by omega, hf, fun j g1 g2 => by omega⟩
/-- A number has a column of a width exactly if this is not smaller than the width for it. -/
theorem fits_width (n : Int) (k : Nat) (h1 : 1 ≤ k) (h2 : k ≤ 12) : fits n k = (decide (0 < widthN n) && decide (widthN n ≤ k)) := by
  unfold widthN
  rcases leastW_spec n 1 12 with ⟨e, h⟩ | ⟨e1, e2, e3, h⟩
  · rw [e, h k h1 (by omega)]; rfl
  · by_cases hk : leastW n 1 12 ≤ k
    · rw [fits_mono n _ k hk e3, decide_eq_true (by omega : 0 < leastW n 1 12), decide_eq_true hk]; rfl
    · rw [h k h1 (by omega), decide_eq_false hk, Bool.and_false]
theorem widthN_le (n : Int) : widthN n ≤ 12 := by
  unfold widthN
  rcases leastW_spec n 1 12 with ⟨e, _⟩ | ⟨_, e2, _, _⟩ <;> omega
end Go.Proofs.YtgafhkjcdddhcaaDoor
