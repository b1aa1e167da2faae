/-
  The walk of the model's column that shows a number. Condition: a width up to 12.
-/
import Derived.Test.YtckmnclpediliaaDoorSpecA
import Derived.BigQuiet
namespace Go.Proofs.YtckmnclpediliaaDoor
set_option maxRecDepth 4000
open Go.RowKit
theorem tmod_bd (n t : Int) (h : 0 < t) : -t < n.tmod t ∧ n.tmod t < t := ⟨Int.lt_tmod_of_pos n h, Int.tmod_lt_of_pos n h⟩
theorem tmod_mod (n t : Int) : (n.tmod t + t) % t = n % t := by
  rw [Int.add_emod_right, Int.tmod_def]
  rw [Int.sub_mul_emod_self_left]
end Go.Proofs.YtckmnclpediliaaDoor
