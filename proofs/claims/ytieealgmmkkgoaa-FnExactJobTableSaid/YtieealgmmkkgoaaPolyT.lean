/-
  Trimming a polynomial, its degree, its differences and its sum: the library's copies and the walks of the program and the model. Condition: slices of at most 1048576 numbers.
-/
import Derived.Test.YtieealgmmkkgoaaPolyV
import Derived.Test.YtieealgmmkkgoaaSl
import Derived.Lib.SliceRun
import Derived.Laws.AppendOwn
namespace Go.Proofs.Ytieealgmmkkgoaa
set_option maxRecDepth 4000
open Go.RowKit
/-- How many numbers a trimmed list of the first n keeps. -/
def trimTo (zs : List Int) : Nat → Nat
  | 0 => 0
  | 1 => 1
  | n + 2 => if zs.getD (n + 1) 0 = 0 then trimTo zs (n + 1) else n + 2
/-- A list without the zeros at its end, but with one number. -/
def trimL (zs : List Int) : List Int := zs.take (trimTo zs zs.length)
theorem trimTo_le (zs : List Int) (n : Nat) : trimTo zs n ≤ n := by
  induction n with
  | zero => exact Nat.le_refl _
  | succ n ih =>
    cases n with
    | zero => exact Nat.le_refl _
    | succ n =>
      rw [trimTo]
      split
      · omega
      · exact Nat.le_refl _
theorem trimTo_pos (zs : List Int) (n : Nat) (h : 0 < n) : 0 < trimTo zs n := by
  induction n with
  | zero => omega
  | succ n ih =>
    cases n with
    | zero => exact Nat.zero_lt_one
    | succ n =>
      rw [trimTo]
      split
      · exact ih (by omega)
      · omega
theorem trimL_length (zs : List Int) : (trimL zs).length = trimTo zs zs.length := by
  have := trimTo_le zs zs.length
  rw [trimL, List.length_take]; omega
theorem trimTo_zero (zs : List Int) (n : Nat) (z : Int) (hz : zs[n + 1]? = some z) (h : z = 0) : trimTo zs (n + 2) = trimTo zs (n + 1) := by
  rw [trimTo, if_pos (by rw [List.getD_eq_getElem?_getD, hz]; exact h)]
theorem trimTo_nz (zs : List Int) (n : Nat) (z : Int) (hz : zs[n + 1]? = some z) (h : z ≠ 0) : trimTo zs (n + 2) = n + 2 := by
  rw [trimTo, if_neg (by rw [List.getD_eq_getElem?_getD, hz]; exact h)]
end Go.Proofs.Ytieealgmmkkgoaa
