/-
  The laws' conversion of rows of segments. Condition: at most 1048576 segments, of at most 1048576 differences.
-/
import Derived.Test.YtmmcdmnmhpbehaaPlnA
import Derived.Laws.MakeOwn
namespace Go.Proofs.Ytmmcdmnmhpbehaa
set_option maxRecDepth 4000
open Go.RowKit
def nextL (L : Nat → Nat) (k s j : Nat) : Nat := if j ≤ k then L j else s
theorem nextL_le {L : Nat → Nat} {k s j : Nat} (h : j ≤ k) : nextL L k s j = L j := if_pos h
theorem nextL_gt {L : Nat → Nat} {k s j : Nat} (h : ¬ j ≤ k) : nextL L k s j = s := if_neg h
/-- Block b holds the first k segments; the other cells are as they were made. -/
def SgTo (w : World) (b n : Nat) (L : Nat → Nat) (cs : List (Int × List Int)) (k : Nat) : Prop := (∀ i, i < n * 2 → (∃ x, w.cell? ⟨b, i, none⟩ = some x) ∧ w.frozen? ⟨b, i, none⟩ = false) ∧ (∀ j, j < k → L j ≤ L (j + 1)) ∧ b < L 0 ∧ L k = w.heap.size ∧
  ∀ (j : Nat) c zs, j < k → cs[j]? = some (c, zs) → ∃ u, w.cell? ⟨b, j * 2, none⟩ = some (.int .i64 c) ∧ w.cell? ⟨b, j * 2 + 1, none⟩ = some u ∧ Row w (L j) (L (j + 1)) u zs
theorem info_sg : (Try.prog.info? 36).map (fun i => (i.zero, i.size, i.bytes)) = some (some (.agg #[.int .i64 0, .slice none 0 0]), 2, 32) := by kernel_rfl
theorem made_sg (m i : Nat) (h : i < m * 2) : ∃ x, (madeCells #[.int .i64 0, .slice none 0 0] (m * 2))[i]? = some x := by
  have : i < (madeCells #[Value.int .i64 0, .slice none 0 0] (m * 2)).size := by simp [madeCells]; omega
  exact ⟨_, Array.getElem?_eq_getElem this⟩
end Go.Proofs.Ytmmcdmnmhpbehaa
