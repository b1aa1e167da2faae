/-
  Engines in memory: an engine's slice in a block of its own, loaded and stored whole, and returned. No conditions.
  The laws' own functions on engines: a copy, equality, marks and whether they still stand, and the size. Condition: at most 1048576 columns.
-/
import Derived.Test.YtgafhkjcdddhcaaDoorBox
import Derived.Test.YtgafhkjcdddhcaaDoorSs
import Derived.Laws.Rows
import Derived.Laws.ResultCell
namespace Go.Proofs.YtgafhkjcdddhcaaDoor
set_option maxRecDepth 4000
set_option linter.unusedVariables false
open Go.RowKit
theorem slice_one (a : Option Addr) (n cap : Nat) : (#[Value.slice a n cap] : Array Value).all (·.oneCell') = true := by simp [Value.oneCell']
theorem LiesS.some {w : World} {lo hi : Nat} {v : Value} {zs : List ByteArray} (h : LiesS w lo hi v zs) : ∃ a cap, v = .slice a zs.length cap := by
  obtain ⟨a, cap, e, _⟩ := h
  exact ⟨a, cap, e⟩
theorem RowS.some {w : World} {lo hi : Nat} {v : Value} {zs : List ByteArray} (h : RowS w lo hi v zs) : ∃ a cap, v = .slice a zs.length cap := by
  obtain ⟨a, cap, e, _⟩ := h
  exact ⟨a, cap, e⟩
theorem onto_setRow (r : Nat) (w : World) (cs : Array Value) : Onto r w (w.setRow r cs) :=
  ⟨rfl, rfl, rfl, by simp, fun k _ hk => setRow_other w r k cs hk⟩
theorem bDrew' {w w' : World} (h : Below w.drew.heap.size w.drew w') : Below w.heap.size w w' := bThen ((Below.refl w.heap.size w).drew) h
end Go.Proofs.YtgafhkjcdddhcaaDoor
namespace Go.Proofs.YtgafhkjcdddhcaaDoor
set_option maxRecDepth 4000
set_option linter.unusedVariables false
open Go.RowKit
/-- What the size of a list of texts leaves. -/
def Sized (zs : List ByteArray) (left : Nat) (w : World) (e : Ending) (w' : World) : Prop :=
  ∃ r : Int, e = .returned (.int .i64 r) ∧ (r = -1 ∨ (∃ m : Nat, r = m ∧ m ≤ left) ∧ zs.length ≤ left ∧ ∀ z ∈ zs, z.size ≤ left) ∧ Below w.heap.size w w'
/-- A call that answers a new engine. -/
def NewEng (zs : List ByteArray) (w : World) (e : Ending) (w' : World) : Prop := ∃ v, e = .returned (.agg #[v]) ∧ RowS w' w.heap.size w'.heap.size v zs ∧ Below w.heap.size w w'
/-- A call that answers a new engine and a truth. -/
def NewEngB (zs : List ByteArray) (b : Bool) (w : World) (e : Ending) (w' : World) : Prop := ∃ v, e = .returned (.tuple #[.agg #[v], .bool b]) ∧ RowS w' w.heap.size w'.heap.size v zs ∧ Below w.heap.size w w'
end Go.Proofs.YtgafhkjcdddhcaaDoor
