/-
  A law's segments that came in: a slice of structs of a number and a slice of numbers. No conditions.
-/
import Derived.Test.YtpkieconbfgbdaaRows
import Derived.Test.YtpkieconbfgbdaaPlanSg
import Derived.Deep.Strs
import Derived.Deep.SlicePairs
import Derived.ProofKit
import Derived.OpenShut
import Derived.ChangeSame
namespace Go.Proofs.Ytpkieconbfgbdaa
set_option maxRecDepth 4000
set_option linter.unusedVariables false
open Go.ChangeShapes Go.WideShapes Go.ChangeAt Go.RowKit Go.Deep
theorem openSg {H : Type} {enc : TypeId × Value → H} {W : World} {a : Option Addr} {len cap : Nat} {fuel : Nat} {x : DataW H × List MemPlace}
    (hf : DataW.trod enc Try.prog W 0 (fun _ => true) true fuel 34 (Value.slice a len cap).cells.toList = some x) : ∃ cs, LiesSg W W.heap.size (.slice a len cap) cs := by
  rcases open_slice Try.underlying34 hf with ⟨hcs, _⟩ | ⟨x, l, c, m, n, D, Pl, hcs, _, hl, hm, hmm, _, hx⟩
  · simp [Value.cells] at hcs
    obtain ⟨rfl, rfl, rfl⟩ := hcs
    exact ⟨[], (RowSg.nil W 0 W.heap.size none 0 (Nat.zero_le _) (fun _ => rfl) (Nat.zero_le _)).lies⟩
  · simp [Value.cells] at hcs
    obtain ⟨rfl, rfl, rfl⟩ := hcs
    have hmc : m = cap := by rw [hmm]; simp
    subst hmc
    have ce : Try.prog.cellsOf 57 = 2 := by kernel_rfl
    have c1 : Try.prog.cellsOf 3 = 1 := by kernel_rfl
    have c2 : Try.prog.cellsOf 22 = 1 := by kernel_rfl
    have each : ∀ i, i < m → ∃ q : (Int × List Int) × Value, W.cell? (x.add (i * 2)) = some (.int .i64 q.1.1) ∧ W.cell? (x.add (i * 2 + 1)) = some q.2 ∧ Lies W 0 W.heap.size q.2 q.1.2 := by
      intro i hi
      obtain ⟨cs', h1, h2⟩ := hx i hi
      rw [ce] at h1
      obtain ⟨_, hlen, hcell⟩ := World.cells?_some h1
      obtain ⟨y0, y1, k, _, _, g0, g1⟩ := trod_struct2 Try.underlying57 h2
      match cs', hlen with
      | [v0, v1], _ =>
        simp [c1, c2] at g0 g1
        obtain ⟨n0, e0, _⟩ := DataW.trod_int Try.underlying3 g0
        injection e0 with e0 _
        subst e0
        have a0 := hcell 0 (by omega)
        have a1 := hcell 1 (by omega)
        rw [add_add] at a0 a1
        have hl1 : ∃ zs, Lies W 0 W.heap.size v1 zs := by
          rcases open_ints Try.underlying22 Try.underlying3 (by kernel_rfl) g1 with ⟨hcs, _⟩ | ⟨x2, l, c, zs, hcs, _, hl2, hm2, hz2, _, hcell2, hwz⟩
          · obtain rfl : v1 = .slice none 0 0 := by simpa using hcs
            exact lies_nil W
          · obtain rfl : v1 = .slice (some x2) l c := by simpa using hcs
            exact lies_row W x2 _ _ zs hl2 hm2 (by simpa using hz2) hcell2
        obtain ⟨zs, hzs⟩ := hl1
        exact ⟨((n0, zs), v1), by simpa using a0, by simpa using a1, hzs⟩
    obtain ⟨q, hq⟩ := choose_lt each
    refine ⟨(List.range len).map (fun j => (q j).1), ⟨some x, m, by simp, by simpa using hl, hm, (fun e => by cases e), fun j c zs hj => ?_⟩⟩
    have hjl : j < len := by have := (List.getElem?_eq_some_iff.1 hj).1; simpa using this
    rw [List.getElem?_map, List.getElem?_range hjl] at hj
    simp only [Option.map_some, Option.some.injEq] at hj
    obtain ⟨b0, b1, b2⟩ := hq j (by omega)
    rw [hj] at b0 b2
    obtain ⟨b, off, spot⟩ := x
    have s0 := (hq 0 (by omega)).1
    have hspot : spot = none := by simpa [Addr.add] using World.cell?_spot s0
    subst hspot
    have e (i : Nat) : (⟨b, off, none⟩ : Addr).add i = ⟨b, off + i, none⟩ := by simp [Addr.add]
    rw [e] at b0 b1
    exact ⟨b, off, (q j).2, rfl, cell_blk _ _ _ b0, b0, by rw [Nat.add_assoc]; exact b1, b2⟩
end Go.Proofs.Ytpkieconbfgbdaa
