/-
  The walks of the model's binomial coefficients and values of polynomials. Conditions: arguments between -300 and 300 where a contract says so.
-/
import Derived.Test.YtmgncchlghmmoaaIn
import Derived.Test.YtmgncchlghmmoaaSl
import Derived.Test.YtmgncchlghmmoaaPolyMath
import Derived.BigQuiet
namespace Go.Proofs.Ytmgncchlghmmoaa
set_option maxRecDepth 4000
open Go.RowKit
end Go.Proofs.Ytmgncchlghmmoaa
