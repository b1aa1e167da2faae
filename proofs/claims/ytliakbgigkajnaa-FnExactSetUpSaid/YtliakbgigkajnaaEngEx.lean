/-
  What the exact laws on engines lean on: a law's engine in a block of its own. No conditions.
-/
import Derived.Test.YtliakbgigkajnaaEngFns
namespace Go.Proofs.Ytliakbgigkajnaa
set_option maxRecDepth 4000
set_option linter.unusedVariables false
open Go.RowKit
theorem belowN (w : World) (o : Obj) : Below w.heap.size w (w.alloc o) := bMore (Below.refl _ _) o
theorem bDrew {w w' : World} (h : Below w.drew.heap.size w.drew w') : Below w.heap.size w w' := bThen ((Below.refl w.heap.size w).drew) h
end Go.Proofs.Ytliakbgigkajnaa
