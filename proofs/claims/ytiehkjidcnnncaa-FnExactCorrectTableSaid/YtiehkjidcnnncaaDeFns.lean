/-
  The law's own comparison of two slices of numbers that hold the same. No conditions.
-/
import Derived.Test.YtiehkjidcnnncaaSl
namespace Go.Proofs.Ytiehkjidcnnncaa
set_option maxRecDepth 4000
open Go.RowKit
end Go.Proofs.Ytiehkjidcnnncaa
