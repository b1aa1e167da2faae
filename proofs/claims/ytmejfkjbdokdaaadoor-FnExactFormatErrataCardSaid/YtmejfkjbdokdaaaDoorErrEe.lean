/-
  ApplyErrata: the program, at every argument. Condition: at most 1048576 errata.
-/
import Derived.Test.YtmejfkjbdokdaaaDoorErrEd
import Derived.Test.YtmejfkjbdokdaaaDoorPolyT
import Derived.Test.YtmejfkjbdokdaaaDoorErrC
import Derived.BigQuiet
namespace Go.Proofs.YtmejfkjbdokdaaaDoor
set_option maxRecDepth 4000
open Go.RowKit
/-- A table with the first errata applied, and whether they fit. -/
def appL (zs F : List Int) : Nat → List Int
  | 0 => zs
  | k + 1 => (appL zs F k).set (eAt F k).toNat (eRi F k)
def appOne (zs F : List Int) (k : Nat) : Bool := decide (eAt F k < (zs.length : Int)) && decide (zs.getD (eAt F k).toNat 0 = eWr F k)
def appOk (zs F : List Int) : Nat → Bool
  | 0 => true
  | k + 1 => appOk zs F k && appOne zs F k
theorem appL_len (zs F : List Int) : ∀ k, (appL zs F k).length = zs.length := by
  intro k
  induction k with
  | zero => rfl
  | succ k ih => rw [appL, List.length_set, ih]
theorem appOk_no (zs F : List Int) (k : Nat) (h : appOne zs F k = false) : ∀ n, k < n → appOk zs F n = false := by
  intro n
  induction n with
  | zero => intro h; omega
  | succ n ih =>
    intro hk
    rw [appOk]
    by_cases e : k = n
    · subst e; rw [h, Bool.and_false]
    · rw [ih (by omega), Bool.false_and]
theorem okEs_pre (F : List Int) : ∀ n, okEs F n = true → ∀ k, k ≤ n → okEs F k = true := by
  intro n
  induction n with
  | zero => intro h k hk; obtain rfl : k = 0 := by omega
            exact h
  | succ n ih =>
    intro h k hk
    by_cases e : k = n + 1
    · subst e; exact h
    · rw [okEs, Bool.and_eq_true] at h
      exact ih h.1 k (by omega)
def applyB (zs F : List Int) (n : Nat) : Bool := tableOk zs && (okEs F n && appOk zs F n)
def applyA (zs F : List Int) (n : Nat) : List Int := if applyB zs F n then appL zs F n else []
theorem applyA_len (zs F : List Int) (n : Nat) (h : zs.length ≤ 1048576) : (applyA zs F n).length ≤ 1048576 := by
  unfold applyA
  split
  · rw [appL_len]; exact h
  · simp
theorem apply_no (zs F : List Int) (n : Nat) (h : applyB zs F n = false) : applyA zs F n = [] := by unfold applyA; rw [h]; rfl
end Go.Proofs.YtmejfkjbdokdaaaDoor
