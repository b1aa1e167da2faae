/-
  What stands when a call changes one block of memory alone: its laws lie in the base. No conditions.
-/
import Derived.Test.YtffmhcahiabicaaDoorCols
namespace Go.Proofs.YtffmhcahiabicaaDoor
end Go.Proofs.YtffmhcahiabicaaDoor
