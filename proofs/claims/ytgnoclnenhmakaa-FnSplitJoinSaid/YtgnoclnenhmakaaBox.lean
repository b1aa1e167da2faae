/-
  Frames: what a new block, a stored row and a second call leave. No conditions.
-/
import Derived.Test.YtgnoclnenhmakaaBase
import Derived.Laws.Rows
import Derived.Laws.ResultCell
namespace Go.Proofs.Ytgnoclnenhmakaa
set_option maxRecDepth 4000
open Go.RowKit
theorem bMore {a w : World} (h : Below a.heap.size a w) (o : Obj) : Below a.heap.size a (w.alloc o) := h.alloc h.size o
theorem bThen {a b c : World} (h : Below a.heap.size a b) (k : Below b.heap.size b c) : Below a.heap.size a c := h.trans (k.mono h.size)
theorem bRow {a w : World} (h : Below a.heap.size a w) {b : Nat} (hb : a.heap.size ≤ b) (cs : Array Value) : Below a.heap.size a (w.setRow b cs) :=
  ⟨h.os, h.tape, h.output, by simpa using h.size, fun k hk => by rw [setRow_other w b k cs (by omega)]; exact h.block k hk⟩
theorem ontoRow (r : Nat) (w : World) (cs : Array Value) : Onto r w (w.setRow r cs) :=
  ⟨rfl, rfl, rfl, by simp, fun k _ hk => setRow_other w r k cs hk⟩
end Go.Proofs.Ytgnoclnenhmakaa
