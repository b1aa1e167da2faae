/-
  What stands when a call changes one block of memory alone: its laws lie in the base. No conditions.
-/
import Derived.Test.YtckmnclpediliaaDoorCols
namespace Go.Proofs.YtckmnclpediliaaDoor
end Go.Proofs.YtckmnclpediliaaDoor
