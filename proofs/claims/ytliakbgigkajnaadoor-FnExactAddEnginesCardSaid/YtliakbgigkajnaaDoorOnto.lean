/-
  What stands when a call changes one block of memory alone: its laws lie in the base. No conditions.
-/
import Derived.Test.YtliakbgigkajnaaDoorCols
namespace Go.Proofs.YtliakbgigkajnaaDoor
end Go.Proofs.YtliakbgigkajnaaDoor
