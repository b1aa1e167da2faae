/-
  The walks of the model's binomial coefficients and values of polynomials. Conditions: arguments between -300 and 300 where a contract says so.
-/
import Derived.Test.YtbgkfiogaeeplaaIn
import Derived.Test.YtbgkfiogaeeplaaSl
import Derived.Test.YtbgkfiogaeeplaaPolyDiff
import Derived.BigQuiet
namespace Go.Proofs.Ytbgkfiogaeeplaa
open Go.RowKit
end Go.Proofs.Ytbgkfiogaeeplaa
