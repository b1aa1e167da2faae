/-
  The law's own comparison of two slices of numbers that hold the same. No conditions.
-/
import Derived.Test.YtpkieconbfgbdaaSl
namespace Go.Proofs.Ytpkieconbfgbdaa
set_option maxRecDepth 4000
open Go.RowKit
end Go.Proofs.Ytpkieconbfgbdaa
