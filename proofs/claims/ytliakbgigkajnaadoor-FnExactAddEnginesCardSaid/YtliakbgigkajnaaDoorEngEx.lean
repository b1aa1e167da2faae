/-
  What the exact laws on engines lean on: a law's engine in a block of its own. No conditions.
-/
import Derived.Test.YtliakbgigkajnaaDoorEngBox
namespace Go.Proofs.YtliakbgigkajnaaDoor
set_option maxRecDepth 4000
set_option linter.unusedVariables false
open Go.RowKit
/-- Block b holds a law's engine with the slice v. -/
def LEngAt (w : World) (b : Nat) (v : Value) : Prop := w.heap[b]? = some (.cells #[v] 24 (0, 0))
theorem LEngAt.cell {w : World} {b : Nat} {v : Value} (h : LEngAt w b v) : w.cell? ⟨b, 0, none⟩ = some v := by
  unfold LEngAt at h
  simp [World.cell?, h]
theorem LEngAt.fresh (w : World) (v : Value) : LEngAt (w.alloc (.cells #[v] 24)) w.heap.size v := heap_alloc_new w _
theorem LEngAt.newAt (w : World) (v : Value) (n : Nat) (hn : w.heap.size = n) : LEngAt (w.alloc (.cells #[v] 24)) n v := hn ▸ LEngAt.fresh w v
theorem LEngAt.below {w w' : World} {b : Nat} {v : Value} (h : LEngAt w b v) (hb : Below w.heap.size w w') : LEngAt w' b v := by
  unfold LEngAt at *
  rw [hb.block b (Array.getElem?_eq_some_iff.1 h).1]; exact h
theorem LEngAt.apart {w w' : World} {b lo hi : Nat} {v : Value} (h : LEngAt w b v) (hb : Apart lo hi w w') (hc : b < lo ∨ hi ≤ b) : LEngAt w' b v := by
  unfold LEngAt at *
  rw [hb.block b (Array.getElem?_eq_some_iff.1 h).1 hc]; exact h
theorem LEngAt.lt {w : World} {b : Nat} {v : Value} (h : LEngAt w b v) : b < w.heap.size := (Array.getElem?_eq_some_iff.1 h).1
theorem belowN (w : World) (o : Obj) : Below w.heap.size w (w.alloc o) := bMore (Below.refl _ _) o
theorem bDrew {w w' : World} (h : Below w.drew.heap.size w.drew w') : Below w.heap.size w w' := bThen ((Below.refl w.heap.size w).drew) h
end Go.Proofs.YtliakbgigkajnaaDoor
