/-
  The program's ColumnOf at each kind of argument, and the model's test whether a number fits a width. Conditions: as each contract says.
-/
import Derived.Test.YtckmnclpediliaaDoorSpecB
namespace Go.Proofs.YtckmnclpediliaaDoor
set_option maxRecDepth 4000
open Go.RowKit
end Go.Proofs.YtckmnclpediliaaDoor
