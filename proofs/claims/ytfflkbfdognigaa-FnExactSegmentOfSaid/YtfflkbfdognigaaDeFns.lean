/-
  The law's own comparison of two slices of numbers that hold the same. No conditions.
-/
import Derived.Test.YtfflkbfdognigaaSl
namespace Go.Proofs.Ytfflkbfdognigaa
set_option maxRecDepth 4000
open Go.RowKit
end Go.Proofs.Ytfflkbfdognigaa
