/-
  NegateColumn of the program, at a column and at no column. Condition: a string of at most 2 to the power of 63, minus 1, bytes.
-/
import Derived.Test.YtmjahklcliocjaaDoorValid
import Derived.Test.YtmjahklcliocjaaDoorSpecB
namespace Go.Proofs.YtmjahklcliocjaaDoor
set_option maxRecDepth 4000
open Go.RowKit
variable (s : ByteArray) (hs : s.size ≤ 9223372036854775807) (w : World)
include hs
end Go.Proofs.YtmjahklcliocjaaDoor
