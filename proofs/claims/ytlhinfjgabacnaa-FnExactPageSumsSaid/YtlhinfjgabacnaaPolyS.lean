/-
  The walks of the model's binomial coefficients and values of polynomials. Conditions: arguments between -300 and 300 where a contract says so.
-/
import Derived.Test.YtlhinfjgabacnaaIn
import Derived.Test.YtlhinfjgabacnaaSl
import Derived.Test.YtlhinfjgabacnaaPolyMath
import Derived.BigQuiet
namespace Go.Proofs.Ytlhinfjgabacnaa
set_option maxRecDepth 4000
open Go.RowKit
end Go.Proofs.Ytlhinfjgabacnaa
