/-
  SegmentOf: the model, at every argument. No conditions but that slices fit in memory.
-/
import Derived.Test.YtpkieconbfgbdaaPlanC
namespace Go.Proofs.Ytpkieconbfgbdaa
set_option maxRecDepth 4000
open Go.RowKit
end Go.Proofs.Ytpkieconbfgbdaa
