/-
  All carries of a row of wheels made at once, and whether a wheel is marked. Condition: the row and the marks have the same width, of at most twelve wheels.
-/
import Derived.Test.YtckmnclpediliaaDoorRowB
namespace Go.Proofs.YtckmnclpediliaaDoor
set_option maxRecDepth 4000
open Go.RowKit
/-- What holds of memory when carries have been made up to wheel k. -/
structure Carried (w : World) (b n : Nat) (A M : List Int) (k : Nat) (wr : World) : Prop where
  row : RowAt wr b n (someT (aheadD 0 A M) A k)
  by_ : RowAt wr w.heap.size n (pad M)
  onto : Onto b w wr
end Go.Proofs.YtckmnclpediliaaDoor
