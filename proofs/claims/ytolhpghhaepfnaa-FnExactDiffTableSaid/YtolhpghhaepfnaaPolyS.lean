/-
  The walks of the model's binomial coefficients and values of polynomials. Conditions: arguments between -300 and 300 where a contract says so.
-/
import Derived.Test.YtolhpghhaepfnaaIn
import Derived.Test.YtolhpghhaepfnaaSl
import Derived.Test.YtolhpghhaepfnaaPolyDiff
import Derived.BigQuiet
namespace Go.Proofs.Ytolhpghhaepfnaa
set_option maxRecDepth 4000
open Go.RowKit
end Go.Proofs.Ytolhpghhaepfnaa
