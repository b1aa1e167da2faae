/-
  The walks of the model's binomial coefficients and values of polynomials. Conditions: arguments between -300 and 300 where a contract says so.
-/
import Derived.Test.YtliakbgigkajnaaDoorIn
import Derived.Test.YtliakbgigkajnaaDoorSl
import Derived.Test.YtliakbgigkajnaaDoorPolyDiff
import Derived.BigQuiet
namespace Go.Proofs.YtliakbgigkajnaaDoor
set_option maxRecDepth 4000
open Go.RowKit
end Go.Proofs.YtliakbgigkajnaaDoor
