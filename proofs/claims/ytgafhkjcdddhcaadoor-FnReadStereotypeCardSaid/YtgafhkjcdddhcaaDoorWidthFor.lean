/-
  WidthFor of the program and of the model: the least width of a column for a number. No conditions.
-/
import Derived.Test.YtgafhkjcdddhcaaDoorNegate
namespace Go.Proofs.YtgafhkjcdddhcaaDoor
set_option maxRecDepth 4000
open Go.RowKit
/-- The least width from k on of a column for a number, of d more widths; 0 if there is none. -/
def leastW (n : Int) : Nat → Nat → Nat
  | _, 0 => 0
  | k, d + 1 => if fits n k then k else leastW n (k + 1) d
def widthN (n : Int) : Nat := leastW n 1 12
end Go.Proofs.YtgafhkjcdddhcaaDoor
