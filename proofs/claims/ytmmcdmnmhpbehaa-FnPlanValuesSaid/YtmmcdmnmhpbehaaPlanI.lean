/-
  The draw of a segment. No conditions but that the bytes that came in can be read.
  The walk of a law: a segment has as values the entries of the table, and a polynomial of at most the degree. No conditions but that the bytes that came in can be read.
-/
import Derived.Test.YtmmcdmnmhpbehaaPlanF
import Derived.Test.YtmmcdmnmhpbehaaPlanA
import Derived.Test.YtmmcdmnmhpbehaaPlanC
import Derived.Test.YtmmcdmnmhpbehaaPolyLc
import Derived.Test.YtmmcdmnmhpbehaaDeFns
import Derived.Deep.RegionHeld3
namespace Go.Proofs.Ytmmcdmnmhpbehaa
set_option maxRecDepth 4000
open Go.RowKit
theorem results_tmp45 {fn : Func} {p q r s : Tmp} (h : fn.results = #[.tmp p, .tmp q, .tmp r, .tmp s]) (tmps : Array Value) (P : Program) (w : World) : (results fn tmps).run P w = .ok (.tuple #[tmps.getD p undef, tmps.getD q undef, tmps.getD r undef, tmps.getD s undef]) w := by
  simp [results, h]
theorem came_below5 {w w' : World} {a : Option Addr} {len cap : Nat} (h : Came w a len cap) (hb : Below w.heap.size w w') : Came w' a len cap :=
 by
  obtain ⟨h1, h2, h3, h4⟩ := h
  refine ⟨h1, h2, fun j hj => ?_, h4⟩
  obtain ⟨b, off, x, e, hl, x0, x1, hc⟩ := h3 j hj
  exact ⟨b, off, x, e, Nat.lt_of_lt_of_le hl hb.size, x0, x1, by rw [hb.cell (p := ⟨b, off + j, none⟩) hl]; exact hc⟩
/-- A drawn slice of numbers, a place, a number and a degree. -/
def DrawTfcd (w : World) (e : Ending) (w' : World) : Prop := ∃ (v : Value) (zs : List Int) (f c d : Int), e = .returned (.tuple #[v, .int .i64 f, .int .i64 c, .int .i64 d]) ∧ Lies w' 0 w'.heap.size v zs ∧ zs.length ≤ 61 ∧ Below w.heap.size w w'
theorem runAns_bd (zs : List Int) (f d : Int) : -1 ≤ runAns zs f d ∧ runAns zs f d ≤ 60 := by
  unfold runAns
  split
  · rename_i h
    rw [Bool.and_eq_true] at h
    have := ((small_iff zs).1 h.1).2.1
    have h2 := longN_le (d.toNat + 1) (zs.drop f.toNat)
    rw [List.length_drop] at h2
    omega
  · omega
end Go.Proofs.Ytmmcdmnmhpbehaa
namespace Go.Proofs.Ytmmcdmnmhpbehaa
set_option maxRecDepth 4000
open Go.RowKit
theorem evA_run (P : List Int) (n : Nat) (hp : polyOk P = true) (hn : n ≤ 200) : evA P n = evP P n := by
  unfold evA
  rw [hp, Bool.true_and, if_pos]
  unfold inB
  simp
  omega
/-- The polynomial of a segment has its entries as values. -/
theorem seg_vals (zs : List Int) (f c d : Int) (h : segB zs f c d = true) : ∃ k n : Nat, f = (k : Int) ∧ c = (n : Int) ∧ 1 ≤ n ∧ k + n ≤ zs.length ∧ zs.length ≤ 60 ∧ (∀ i z, i < n → zs[k + i]? = some z → evA (interA (segZ zs f c)) (i : Nat) = z) ∧ degL (interA (segZ zs f c)) ≤ d ∧ -1 ≤ degL (interA (segZ zs f c)) ∧ degL (interA (segZ zs f c)) ≤ 6 ∧ (interA (segZ zs f c)).length ≤ n ∧ 1 ≤ (interA (segZ zs f c)).length := by
  unfold segB at h
  simp only [Bool.and_eq_true] at h
  obtain ⟨hs, ha, hc, hd, hr⟩ := h
  have ⟨a1, a2⟩ := of_decide_eq_true ha
  have ⟨c1, c2⟩ := of_decide_eq_true hc
  have ⟨z1, z60, _⟩ := (small_iff zs).1 hs
  have hlen : (segZ zs f c).length = c.toNat := by unfold segZ; rw [List.length_take, List.length_drop]; omega
  unfold runB at hr
  rw [Bool.and_eq_true] at hr
  obtain ⟨hl, hi⟩ := hr
  have hl := of_decide_eq_true hl
  obtain ⟨T, P, e, eT, hT7, hPl, hPok, hdeg, hvals, _, hV60⟩ := inter_yes (segZ zs f c) hi
  have hio : interOk (segZ zs f c) = true := by unfold interB at hi; rw [Bool.and_eq_true] at hi; exact hi.1
  obtain ⟨_, _, _, g1, g2, g3, g4, g5, g6⟩ := inter_bd (segZ zs f c) hio
  refine ⟨f.toNat, c.toNat, by omega, by omega, by omega, by omega, z60, fun i z hi2 hz => ?_, by rw [e, hdeg]; omega, by rw [e, hdeg]; omega, by rw [e, hdeg]; omega, ?_, by rw [e, hPl]; omega⟩
  · rw [e, evA_run P i hPok (by omega)]
    have h1 := hvals i (by rw [hlen]; exact hi2)
    have h2 : (segZ zs f c)[i]? = some z := by unfold segZ; rw [List.getElem?_take, if_pos hi2, List.getElem?_drop]; exact hz
    rw [h2] at h1
    injection h1 with h1
    exact h1.symm
  · rw [e, hPl]
    by_cases hq : leastL (segZ zs f c) + 1 ≤ 1
    · have := g5 hq; omega
    · have := g6 (by omega); omega
end Go.Proofs.Ytmmcdmnmhpbehaa
