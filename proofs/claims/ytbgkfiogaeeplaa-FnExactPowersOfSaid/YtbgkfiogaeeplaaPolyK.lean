/-
  Values of a polynomial one after the other and its differences at an argument: the program. Condition: valid polynomials and arguments between -300 and 300.
-/
import Derived.Test.YtbgkfiogaeeplaaPolyJ
import Derived.Test.YtbgkfiogaeeplaaPolyN
namespace Go.Proofs.Ytbgkfiogaeeplaa
open Go.RowKit
theorem shift_step (zs : List Int) (n : Int) (k : Nat) : evP (zs.drop k) n + evP (zs.drop (k + 1)) n = evP (zs.drop k) (n + 1) := by
  rw [evP_step, List.tail_drop]
/-- A call that moves a row of differences on to the next argument. -/
def Up (b : Nat) (L : List Int) (w : World) (e : Ending) (w' : World) : Prop := e = .returned (.tuple #[]) ∧ Blk w' b L ∧ Onto b w w'
end Go.Proofs.Ytbgkfiogaeeplaa
