/-
  Drawn polynomials whose numbers are small. Condition: the reader has been asked at most 900000 times.
-/
import Derived.Test.YtmmcdmnmhpbehaaKitP
namespace Go.Proofs.Ytmmcdmnmhpbehaa
set_option maxRecDepth 4000
open Go.RowKit
/-- A drawn row of small numbers. -/
def SomeRowS (r B : Nat) (w : World) (e : Ending) (w' : World) : Prop := ∃ (v : Value) (zs : List Int), e = .returned v ∧ w'.ownsRow w.heap.size 3 1 v zs.length (ints zs) ∧ 1 ≤ zs.length ∧ zs.length ≤ 6 ∧ (∀ x ∈ zs, -1000 ≤ x ∧ x ≤ 1000) ∧ Rd w' r (B + 15) ∧ Onto r w w'
theorem bnd_snoc {zs : List Int} {x : Int} (h : ∀ x ∈ zs, -1000 ≤ x ∧ x ≤ 1000) (h0 : -1000 ≤ x) (h1 : x ≤ 1000) : ∀ y ∈ zs ++ [x], -1000 ≤ y ∧ y ≤ 1000 := by
  intro y hy
  rcases List.mem_append.1 hy with hy | hy
  · exact h y hy
  · simp at hy
    rw [hy]
    exact ⟨h0, h1⟩
end Go.Proofs.Ytmmcdmnmhpbehaa
