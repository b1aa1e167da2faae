/-
  The walks of the model's binomial coefficients and values of polynomials. Conditions: arguments between -300 and 300 where a contract says so.
-/
import Derived.Test.YtnndeiiolnefkaaIn
import Derived.Test.YtnndeiiolnefkaaSl
import Derived.Test.YtnndeiiolnefkaaPolyMath
import Derived.BigQuiet
namespace Go.Proofs.Ytnndeiiolnefkaa
set_option maxRecDepth 4000
open Go.RowKit
end Go.Proofs.Ytnndeiiolnefkaa
