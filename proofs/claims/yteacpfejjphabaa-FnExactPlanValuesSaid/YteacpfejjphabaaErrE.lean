/-
  The search for a slip: parts of the program. No conditions but that slices fit in memory.
-/
import Derived.Test.YteacpfejjphabaaErrDm
namespace Go.Proofs.Yteacpfejjphabaa
set_option maxRecDepth 4000
open Go.RowKit
end Go.Proofs.Yteacpfejjphabaa
