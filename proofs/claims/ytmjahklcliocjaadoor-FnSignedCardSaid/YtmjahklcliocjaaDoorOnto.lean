/-
  What stands when a call changes one block of memory alone: its laws lie in the base. No conditions.
-/
import Derived.Test.YtmjahklcliocjaaDoorCols
namespace Go.Proofs.YtmjahklcliocjaaDoor
end Go.Proofs.YtmjahklcliocjaaDoor
