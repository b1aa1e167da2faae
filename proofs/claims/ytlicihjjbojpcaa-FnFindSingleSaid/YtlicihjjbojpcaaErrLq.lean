/-
  The walk of a law: a table is clean for a degree exactly if it has a polynomial of this or a lower degree. No conditions but that the bytes that came in can be read.
-/
import Derived.Test.YtlicihjjbojpcaaErrKd
import Derived.Test.YtlicihjjbojpcaaErrA
import Derived.Test.YtlicihjjbojpcaaDeFns
namespace Go.Proofs.Ytlicihjjbojpcaa
set_option maxRecDepth 4000
open Go.RowKit
theorem clean_iff (zs : List Int) (d : Int) : cleanB zs d = true ↔ 0 ≤ d ∧ d ≤ 6 ∧ -1 ≤ leastL zs ∧ leastL zs ≤ d := by
  rw [cleanB_eq]
  simp [degOk, and_assoc]
end Go.Proofs.Ytlicihjjbojpcaa
