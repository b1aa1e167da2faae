/-
  The walks of the model's plain parts: widths, powers of ten, whether a column can stand for a number, the column that shows a number, and WidthFor on both sides. Conditions: a width between 1 and 12 where a contract says so.
-/
import Derived.Test.YtoahialihfijjaaDoorCols
import Derived.Test.YtoahialihfijjaaDoorIn
namespace Go.Proofs.YtoahialihfijjaaDoor
set_option maxRecDepth 4000
open Go.RowKit
theorem fits_iff (n : Int) (w : Nat) : fits n w = true ↔ -(tenP w / 2) ≤ n ∧ n < tenP w / 2 := by
  unfold fits
  rw [Bool.and_eq_true, decide_eq_true_eq, decide_eq_true_eq]
end Go.Proofs.YtoahialihfijjaaDoor
