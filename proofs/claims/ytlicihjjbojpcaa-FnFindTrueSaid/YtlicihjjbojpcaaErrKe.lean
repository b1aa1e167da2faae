/-
  The draw of a table and remainders for a law of chapter 4. No conditions but that the bytes that came in can be read.
-/
import Derived.Test.YtlicihjjbojpcaaErrKb
import Derived.Test.YtlicihjjbojpcaaErrF
namespace Go.Proofs.Ytlicihjjbojpcaa
set_option maxRecDepth 4000
open Go.RowKit
/-- Two drawn slices of numbers. -/
def DrawT2b (w : World) (e : Ending) (w' : World) : Prop := ∃ (v u : Value) (zs ys : List Int), e = .returned (.tuple #[v, u]) ∧ Lies w' 0 w'.heap.size v zs ∧ Lies w' 0 w'.heap.size u ys ∧ zs.length ≤ 61 ∧ ys.length ≤ 100 ∧ (∀ x ∈ ys, 0 ≤ x ∧ x ≤ 8) ∧ Below w.heap.size w w'
theorem Onto.trans_newb {r b : Nat} {u v w : World} (h : Onto r u v) (k : Onto b v w) (hb : u.heap.size ≤ b) : Onto r u w :=
  ⟨k.os.trans h.os, k.tape.trans h.tape, k.output.trans h.output, Nat.le_trans h.size k.size, fun j hj hr => (k.block j (Nat.lt_of_lt_of_le hj h.size) (by omega)).trans (h.block j hj hr)⟩
theorem Blk.ontob {w w' : World} {r b : Nat} {zs : List Int} (H : Blk w b zs) (ho : Onto r w w') (hr : r < b) : Blk w' b zs := H.apart (lo := r) (hi := r + 1) (Apart.of_onto ho (Nat.le_refl _) (Nat.lt_succ_self _)) (.inr hr)
theorem rdDrewb {w : World} {r B : Nat} (h : Rd w r B) : Rd w.drew r B := h
theorem ontoDrewb (r : Nat) (w : World) : Onto r w w.drew := ⟨rfl, rfl, rfl, Nat.le_refl _, fun _ _ _ => rfl⟩
end Go.Proofs.Ytlicihjjbojpcaa
