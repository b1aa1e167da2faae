/-
  The laws' own functions on jobs. Condition: at most 1048576 differences.
-/
import Derived.Test.YtcinhmfjnjecdaaJobD
namespace Go.Proofs.Ytcinhmfjnjecdaa
set_option maxRecDepth 4000
open Go.RowKit
theorem Row.someJ {w : World} {lo hi : Nat} {v : Value} {zs : List Int} (h : Row w lo hi v zs) : ∃ a cap, v = .slice a zs.length cap := by
  obtain ⟨a, cap, e, _⟩ := h.lies
  exact ⟨a, cap, e⟩
theorem Lies.someJ {w : World} {lo hi : Nat} {v : Value} {zs : List Int} (h : Lies w lo hi v zs) : ∃ a cap, v = .slice a zs.length cap := by
  obtain ⟨a, cap, e, _⟩ := h
  exact ⟨a, cap, e⟩
/-- Block b holds a job. -/
def JobAt (w : World) (b t : Nat) (cs : Array Value) : Prop := w.heap[b]? = some (.cells cs t (0, 0))
theorem JobAt.set {w : World} {b t : Nat} {cs : Array Value} (h : JobAt w b t cs) (i : Nat) (v : Value) : JobAt (w.setCell ⟨b, i, none⟩ v) b t (cs.setIfInBounds i v) := by
  unfold JobAt at *
  simp [World.setCell, Array.getElem?_modify, h]
theorem JobAt.free {w : World} {b t : Nat} {cs : Array Value} (h : JobAt w b t cs) (i : Nat) : w.frozen? ⟨b, i, none⟩ = false := by
  unfold JobAt at h
  unfold World.frozen?
  rw [h]; rfl
theorem JobAt.cell {w : World} {b t : Nat} {cs : Array Value} (h : JobAt w b t cs) (i : Nat) (v : Value) (hv : cs[i]? = some v) : w.cell? ⟨b, i, none⟩ = some v := job_cell h i v hv
theorem JobAt.other {w : World} {b t : Nat} {cs : Array Value} (h : JobAt w b t cs) (g i : Nat) (v : Value) (hg : b ≠ g) : JobAt (w.setCell ⟨g, i, none⟩ v) b t cs := by
  unfold JobAt at *
  rw [Below.heap_setCell _ _ _ b hg]; exact h
theorem JobAt.below {w w' : World} {b t : Nat} {cs : Array Value} (h : JobAt w b t cs) (hb : Below w.heap.size w w') : JobAt w' b t cs := heap_keep h hb
end Go.Proofs.Ytcinhmfjnjecdaa
