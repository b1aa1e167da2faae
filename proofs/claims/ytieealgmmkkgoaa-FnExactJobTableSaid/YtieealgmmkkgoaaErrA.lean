/-
  CleanTable: the program and the model, at every argument. No conditions but that slices fit in memory.
-/
import Derived.Test.YtieealgmmkkgoaaErrMath
namespace Go.Proofs.Ytieealgmmkkgoaa
set_option maxRecDepth 4000
open Go.RowKit
/-- A call that answers a slice of numbers. -/
def LiesTo (zs : List Int) (w : World) (e : Ending) (w' : World) : Prop := ∃ v, e = .returned v ∧ Lies w' 0 w'.heap.size v zs ∧ Below w.heap.size w w'
end Go.Proofs.Ytieealgmmkkgoaa
