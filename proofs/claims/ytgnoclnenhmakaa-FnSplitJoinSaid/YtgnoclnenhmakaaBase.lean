/-
  What all the texts of this seat lean on: what stands when a call changes one block of memory alone and lays new ones. No conditions.
-/
import Derived.Test.YtgnoclnenhmakaaProg
import Derived.WalkKit
import Derived.WalkSpells
import Derived.WalkLawsBesides
import Derived.Deep.OwnRows
import Derived.Laws.IdiomStrings
import Derived.RegionTactic
import Derived.Deep.QuietTactic
import Derived.Deep.Draws
import Derived.WalkSmall
namespace Go.Proofs.Ytgnoclnenhmakaa
set_option maxRecDepth 4000
open Go.RowKit
theorem hidH {p : Prop} (h : p) : Hid p := h
/-- A call that answers v and leaves what was there. -/
def Gives (v : Value) (w : World) (e : Ending) (w' : World) : Prop := e = .returned v ∧ Below w.heap.size w w'
/-- Everything but block r stands, and new blocks may have come. -/
structure Onto (r : Nat) (w w' : World) : Prop where
  os : w'.os = w.os
  tape : w'.tape = w.tape
  output : w'.output = w.output
  size : w.heap.size ≤ w'.heap.size
  block : ∀ k, k < w.heap.size → k ≠ r → w'.heap[k]? = w.heap[k]?
theorem Onto.refl (r : Nat) (w : World) : Onto r w w := ⟨rfl, rfl, rfl, Nat.le_refl _, fun _ _ _ => rfl⟩
theorem Onto.trans {r : Nat} {a b c : World} (h : Onto r a b) (k : Onto r b c) : Onto r a c :=
  ⟨k.os.trans h.os, k.tape.trans h.tape, k.output.trans h.output, Nat.le_trans h.size k.size, fun j hj hr => (k.block j (Nat.lt_of_lt_of_le hj h.size) hr).trans (h.block j hj hr)⟩
theorem Onto.of_below {r : Nat} {a b : World} (h : Below a.heap.size a b) : Onto r a b := ⟨h.os, h.tape, h.output, h.size, fun k hk _ => h.block k hk⟩
theorem Onto.below {r : Nat} {B : Nat} {a b : World} (h : Onto r a b) (hr : B ≤ r) (hB : B ≤ a.heap.size) : Below B a b :=
  ⟨h.os, h.tape, h.output, h.size, fun k hk => h.block k (by omega) (by omega)⟩
theorem Onto.drewN {r : Nat} {a b : World} (h : Onto r a b) (n : Nat) : Onto r a (b.drewN n) := ⟨h.os, h.tape, h.output, h.size, h.block⟩
theorem Onto.alloc {r : Nat} {a b : World} (h : Onto r a b) (o : Obj) : Onto r a (b.alloc o) := h.trans (Onto.of_below ((Below.refl _ _).alloc (Nat.le_refl _) o))
theorem Onto.setCell (r i : Nat) (w : World) (v : Value) : Onto r w (w.setCell ⟨r, i, none⟩ v) :=
  have h := (Below.refl 0 w).setCell (p := ⟨r, i, none⟩) (Nat.zero_le _) v
  ⟨h.os, h.tape, h.output, h.size, fun k _ hk => Below.heap_setCell w ⟨r, i, none⟩ v k hk⟩
theorem Onto.cell {r : Nat} {w w' : World} (h : Onto r w w') {p : Addr} (hp : p.block < w.heap.size) (hr : p.block ≠ r) : w'.cell? p = w.cell? p := World.cell?_of_block (w := w) (h.block p.block hp hr)
theorem Onto.frozen {r : Nat} {w w' : World} (h : Onto r w w') {p : Addr} (hp : p.block < w.heap.size) (hr : p.block ≠ r) : w'.frozen? p = w.frozen? p := World.frozen?_of_block (w := w) (h.block p.block hp hr)
end Go.Proofs.Ytgnoclnenhmakaa
