/-
  NegateColumn of the program, at a column and at no column. Condition: a string of at most 2 to the power of 63, minus 1, bytes.
-/
import Derived.Test.YtfadmifadkknnaaDoorValid
import Derived.Test.YtfadmifadkknnaaDoorSpecB
namespace Go.Proofs.YtfadmifadkknnaaDoor
open Go.RowKit
variable (s : ByteArray) (hs : s.size ≤ 9223372036854775807) (w : World)
include hs
end Go.Proofs.YtfadmifadkknnaaDoor
