/-
  A law's errata that came in: a slice of structs of three numbers. No conditions.
-/
import Derived.Test.YtmejfkjbdokdaaaDoorErrEh
import Derived.Deep.Strs
import Derived.Deep.SlicePairs
import Derived.ProofKit
namespace Go.Proofs.YtmejfkjbdokdaaaDoor
set_option maxRecDepth 4000
set_option linter.unusedVariables false
open Go.ChangeShapes Go.WideShapes Go.ChangeAt Go.RowKit Go.Deep
theorem openErr {H : Type} {enc : TypeId × Value → H} {W : World} {a : Option Addr} {len cap : Nat} {fuel : Nat} {x : DataW H × List MemPlace}
    (hf : DataW.trod enc Tryd.prog W 0 (fun _ => true) true fuel 22 (Value.slice a len cap).cells.toList = some x) : len ≤ cap ∧ cap ≤ maxLen ∧ ∃ F, len ≤ 1048576 → Lies3 W 0 W.heap.size (.slice a len cap) len F := by
  rcases open_slice Tryd.underlying22 hf with ⟨hcs, _⟩ | ⟨x, l, c, m, n, D, Pl, hcs, _, hl, hm, hmm, _, hx⟩
  · simp [Value.cells] at hcs
    obtain ⟨rfl, rfl, rfl⟩ := hcs
    exact ⟨Nat.le_refl _, Nat.zero_le _, [], fun _ => (Row3.nil W 0 W.heap.size none 0 (Nat.zero_le _) (fun _ => rfl)).lies⟩
  · simp [Value.cells] at hcs
    obtain ⟨rfl, rfl, rfl⟩ := hcs
    refine ⟨hl, hm, ?_⟩
    have hmc : m = cap := by rw [hmm]; simp
    subst hmc
    have ce : Tryd.prog.cellsOf 42 = 3 := by kernel_rfl
    have c1 : Tryd.prog.cellsOf 3 = 1 := by kernel_rfl
    have each : ∀ i, i < m → ∃ q : Int × Int × Int, W.cell? (x.add (i * 3)) = some (.int .i64 q.1) ∧ W.cell? (x.add (i * 3 + 1)) = some (.int .i64 q.2.1) ∧ W.cell? (x.add (i * 3 + 2)) = some (.int .i64 q.2.2) := by
      intro i hi
      obtain ⟨cs', h1, h2⟩ := hx i hi
      rw [ce] at h1
      obtain ⟨_, hlen, hcell⟩ := World.cells?_some h1
      obtain ⟨y0, y1, y2, k, _, _, g0, g1, g2⟩ := trod_struct3 Tryd.underlying42 h2
      match cs', hlen with
      | [v0, v1, v2], _ =>
        simp [c1] at g0 g1 g2
        obtain ⟨n0, e0, _⟩ := DataW.trod_int Tryd.underlying3 g0
        obtain ⟨n1, e1, _⟩ := DataW.trod_int Tryd.underlying3 g1
        obtain ⟨n2, e2, _⟩ := DataW.trod_int Tryd.underlying3 g2
        injection e0 with e0 _
        injection e1 with e1 _
        injection e2 with e2 _
        subst e0; subst e1; subst e2
        have a0 := hcell 0 (by omega)
        have a1 := hcell 1 (by omega)
        have a2 := hcell 2 (by omega)
        rw [add_add] at a0 a1 a2
        exact ⟨(n0, n1, n2), by simpa using a0, by simpa using a1, by simpa using a2⟩
    obtain ⟨q, hq⟩ := choose_lt each
    refine ⟨(List.range (3 * len)).map (fun j => if j % 3 = 0 then (q (j / 3)).1 else if j % 3 = 1 then (q (j / 3)).2.1 else (q (j / 3)).2.2), fun hn => ⟨by simp, some x, m, rfl, hl, hm, (fun e => by cases e), some x, _, rfl, Nat.le_refl _, by simp; unfold maxLen; omega, (fun e => by cases e), fun j z hj => ?_⟩⟩
    have hjl : j < 3 * len := by have := (List.getElem?_eq_some_iff.1 hj).1; simpa using this
    have hlt : j / 3 < m := by omega
    obtain ⟨b0, b1, b2⟩ := hq (j / 3) hlt
    have hc : W.cell? (x.add j) = some (.int .i64 z) := by
      rw [List.getElem?_map, List.getElem?_range hjl] at hj
      simp only [Option.map_some, Option.some.injEq] at hj
      have h3 : j % 3 = 0 ∨ j % 3 = 1 ∨ j % 3 = 2 := by omega
      rcases h3 with h3 | h3 | h3
      · rw [if_pos h3] at hj
        rw [← hj, show j = j / 3 * 3 by omega]
        rw [show j / 3 * 3 / 3 = j / 3 by omega]; exact b0
      · rw [if_neg (by omega), if_pos h3] at hj
        rw [← hj, show x.add j = x.add (j / 3 * 3 + 1) by rw [show j / 3 * 3 + 1 = j by omega]]; exact b1
      · rw [if_neg (by omega), if_neg (by omega)] at hj
        rw [← hj, show x.add j = x.add (j / 3 * 3 + 2) by rw [show j / 3 * 3 + 2 = j by omega]]; exact b2
    obtain ⟨b, off, spot⟩ := x
    have s0 := (hq 0 (by omega)).1
    have hspot : spot = none := by simpa [Addr.add] using World.cell?_spot s0
    subst hspot
    have e : (⟨b, off, none⟩ : Addr).add j = ⟨b, off + j, none⟩ := by simp [Addr.add]
    rw [e] at hc
    exact ⟨b, off, rfl, Nat.zero_le _, cell_blk _ _ _ hc, hc⟩
end Go.Proofs.YtmejfkjbdokdaaaDoor
