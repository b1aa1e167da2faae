/-
  Slices of segments in memory: a number and a slice of numbers each, that can be read. No conditions.
-/
import Derived.Test.YtmmcdmnmhpbehaaPlanBox
namespace Go.Proofs.Ytmmcdmnmhpbehaa
set_option maxRecDepth 4000
open Go.RowKit
/-- The slice v holds these segments, which can be read. -/
def LiesSg (w : World) (hi : Nat) (v : Value) (cs : List (Int × List Int)) : Prop := ∃ (a : Option Addr) (cap : Nat), v = .slice a cs.length cap ∧ cs.length ≤ cap ∧ cap ≤ maxLen ∧ (a = none → cap = 0) ∧
  ∀ (j : Nat) c zs, cs[j]? = some (c, zs) → ∃ b off u, a = some ⟨b, off, none⟩ ∧ b < hi ∧ w.cell? ⟨b, off + j * 2, none⟩ = some (.int .i64 c) ∧ w.cell? ⟨b, off + j * 2 + 1, none⟩ = some u ∧ Lies w 0 hi u zs
theorem LiesSg.below {w w' : World} {hi : Nat} {v : Value} {cs : List (Int × List Int)} (h : LiesSg w hi v cs) (hb : Below w.heap.size w w') : LiesSg w' hi v cs := by
  obtain ⟨a, cap, h1, h2, h3, h4, h5⟩ := h
  refine ⟨a, cap, h1, h2, h3, h4, fun j c zs hj => ?_⟩
  obtain ⟨b, off, u, e, hlt, hc, hu, hz⟩ := h5 j c zs hj
  exact ⟨b, off, u, e, hlt, by rw [hb.cell (p := ⟨b, off + j * 2, none⟩) (cell_blk _ _ _ hc)]; exact hc, by rw [hb.cell (p := ⟨b, off + j * 2 + 1, none⟩) (cell_blk _ _ _ hu)]; exact hu, hz.below hb⟩
theorem LiesSg.mono {w : World} {hi h2 : Nat} {v : Value} {cs : List (Int × List Int)} (h : LiesSg w hi v cs) (hh : hi ≤ h2) : LiesSg w h2 v cs := by
  obtain ⟨a, cap, h1, h2', h3, h4, h5⟩ := h
  refine ⟨a, cap, h1, h2', h3, h4, fun j c zs hj => ?_⟩
  obtain ⟨b, off, u, e, hlt, hc, hu, hz⟩ := h5 j c zs hj
  exact ⟨b, off, u, e, by omega, hc, hu, hz.mono (Nat.le_refl _) hh⟩
theorem LiesSg.len {w : World} {hi : Nat} {v : Value} {cs : List (Int × List Int)} (h : LiesSg w hi v cs) : ∃ a cap, v = .slice a cs.length cap ∧ cs.length ≤ cap ∧ cap ≤ maxLen := by
  obtain ⟨a, cap, h1, h2, h3, _⟩ := h
  exact ⟨a, cap, h1, h2, h3⟩
/-- .. with something in it: its address. -/
theorem LiesSg.addr {w : World} {hi : Nat} {v : Value} {cs : List (Int × List Int)} (h : LiesSg w hi v cs) (h0 : 0 < cs.length) : ∃ b off cap, v = .slice (some ⟨b, off, none⟩) cs.length cap ∧ cs.length ≤ cap ∧ cap ≤ maxLen ∧ b < w.heap.size ∧
    ∀ (j : Nat) c zs, cs[j]? = some (c, zs) → ∃ u, w.cell? ⟨b, off + j * 2, none⟩ = some (.int .i64 c) ∧ w.cell? ⟨b, off + j * 2 + 1, none⟩ = some u ∧ Lies w 0 hi u zs := by
  obtain ⟨a, cap, h1, h2, h3, _, h5⟩ := h
  obtain ⟨b, off, u, e, _, hc, _, _⟩ := h5 0 (cs[0]'h0).1 (cs[0]'h0).2 (List.getElem?_eq_getElem h0)
  subst e
  refine ⟨b, off, cap, h1, h2, h3, cell_blk _ _ _ hc, fun j c zs hj => ?_⟩
  obtain ⟨b2, off2, u2, e, _, hc2, hu2, hz2⟩ := h5 j c zs hj
  injection e with e
  injection e with e1 e2
  subst e1; subst e2
  exact ⟨u2, hc2, hu2, hz2⟩
end Go.Proofs.Ytmmcdmnmhpbehaa
