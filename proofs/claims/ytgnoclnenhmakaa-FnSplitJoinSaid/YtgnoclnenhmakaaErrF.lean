/-
  NinesOf and ElevensOf: the program and the model, at every argument. No conditions but that slices fit in memory.
-/
import Derived.Test.YtgnoclnenhmakaaErrB
namespace Go.Proofs.Ytgnoclnenhmakaa
set_option maxRecDepth 4000
open Go.RowKit
/-- A remainder that is not negative, as both programs reckon it. -/
def restN (n d : Int) : Int := n % d
theorem tmod_rest (n d : Int) : n.tmod d % d = restN n d := by
  rw [Int.tmod_def, restN, Int.sub_mul_emod_self_left]
theorem tmod_rest2 (n d : Int) : (n.tmod d + d) % d = restN n d := by
  rw [Int.add_emod_right, tmod_rest]
def restL (zs : List Int) (d : Int) : List Int := zs.map fun n => restN n d
theorem restL_length (zs : List Int) (d : Int) : (restL zs d).length = zs.length := by simp [restL]
theorem restL_get (zs : List Int) (d : Int) (k : Nat) (z : Int) (h : zs[k]? = some z) : (restL zs d)[k]? = some (restN z d) := by simp [restL, h]
/-- What NinesOf and ElevensOf answer. -/
def restA (d : Int) (zs : List Int) : List Int := if tableOk zs then restL zs d else []
theorem restA_len (d : Int) (zs : List Int) : (restA d zs).length ≤ 1048576 := by
  unfold restA
  split
  · rename_i h
    have := tableOk_len _ h
    rw [restL_length]; omega
  · simp
/-- A call that answers a new row of numbers of its own. -/
def NewOwn (zs : List Int) (w : World) (e : Ending) (w' : World) : Prop := ∃ v, e = .returned v ∧ w'.ownsRow w.heap.size 3 1 v zs.length (ints zs) ∧ Below w.heap.size w w'
end Go.Proofs.Ytgnoclnenhmakaa
