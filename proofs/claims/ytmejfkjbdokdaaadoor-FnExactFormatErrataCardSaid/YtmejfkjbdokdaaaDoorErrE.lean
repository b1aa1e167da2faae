/-
  The search for a slip: parts of the program. No conditions but that slices fit in memory.
-/
import Derived.Test.YtmejfkjbdokdaaaDoorErrDm
namespace Go.Proofs.YtmejfkjbdokdaaaDoor
set_option maxRecDepth 4000
open Go.RowKit
end Go.Proofs.YtmejfkjbdokdaaaDoor
