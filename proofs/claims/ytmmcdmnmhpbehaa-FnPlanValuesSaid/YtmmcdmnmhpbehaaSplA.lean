/-
  The library's concatenation of slices of segments. Condition: at most 2097152 segments.
-/
import Derived.Test.YtmmcdmnmhpbehaaPlfR
import Derived.Test.YtmmcdmnmhpbehaaPolyM
namespace Go.Proofs.Ytmmcdmnmhpbehaa
set_option maxRecDepth 4000
open Go.RowKit
/-- The number of elements of the first parts, and their cells. -/
def sumN (nn : Nat → Nat) : Nat → Nat
  | 0 => 0
  | k + 1 => sumN nn k + nn k
def catU (us : Nat → List Value) : Nat → List Value
  | 0 => []
  | k + 1 => catU us k ++ us k
theorem sumN_mono (nn : Nat → Nat) (k m : Nat) (h : k ≤ m) : sumN nn k ≤ sumN nn m := by
  induction m with
  | zero => obtain rfl : k = 0 := by omega
            exact Nat.le_refl _
  | succ m ih =>
    by_cases e : k = m + 1
    · subst e; exact Nat.le_refl _
    · exact Nat.le_trans (ih (by omega)) (Nat.le_add_right _ _)
/-- A part of a concatenation: n segments at an address, whose cells are us. -/
def PartF (w : World) (ad : Addr) (n cap : Nat) (us : List Value) : Prop := us.length = n * 2 ∧ n ≤ cap ∧ cap ≤ maxLen ∧ (∀ (j : Nat) u, us[j]? = some u → w.cell? (ad.add j) = some u) ∧ ∀ u ∈ us, u.oneCell' = true
theorem PartF.below {w w' : World} {ad : Addr} {n cap : Nat} {us : List Value} (h : PartF w ad n cap us) (hb : Below w.heap.size w w') : PartF w' ad n cap us :=
  ⟨h.1, h.2.1, h.2.2.1, fun j u hj => by
    have hc := h.2.2.2.1 j u hj
    rw [hb.cell (p := ad.add j) (cell_blk _ _ _ hc)]; exact hc, h.2.2.2.2⟩
end Go.Proofs.Ytmmcdmnmhpbehaa
