/-
  A law's engine that came in: a struct with a slice of texts. No conditions.
-/
import Derived.Test.YtliakbgigkajnaaDoorRows
import Derived.Test.YtliakbgigkajnaaDoorSs
import Derived.SliceStrings
import Derived.ChangeSame
import Derived.ProofKit
import Derived.OpenShut
import Derived.ShutString
import Derived.ChangeOld
import Derived.Below
namespace Go.Proofs.YtliakbgigkajnaaDoor
set_option maxRecDepth 4000
set_option linter.unusedVariables false
open Go.ChangeShapes Go.WideShapes Go.ChangeAt Go.RowKit
theorem liesS_row (w : World) (x : Addr) (l c : Nat) (ss : List ByteArray) (hl : l ≤ c) (hm : c ≤ maxLen) (hz : l ≤ ss.length) (hcell : ∀ i, i < ss.length → w.cell? (x.add i) = some (.string (ss.getD i ByteArray.empty))) : LiesS w 0 w.heap.size (.slice (some x) l c) (ss.take l) := by
  have hlen : (ss.take l).length = l := by rw [List.length_take]; omega
  refine ⟨some x, c, by rw [hlen], by omega, hm, (fun h => by cases h), fun j z hj => ?_⟩
  have hjl := (List.getElem?_eq_some_iff.1 hj).1
  have hc := hcell j (by omega)
  have h0 := hcell 0 (by omega)
  obtain ⟨b, off, spot⟩ := x
  have hspot : spot = none := by simpa [Addr.add] using World.cell?_spot h0
  subst hspot
  have e : (⟨b, off, none⟩ : Addr).add j = ⟨b, off + j, none⟩ := by simp [Addr.add]
  rw [e] at hc
  rw [List.getElem?_take, if_pos (by omega)] at hj
  rw [List.getD_eq_getElem?_getD, hj] at hc
  exact ⟨b, off, rfl, Nat.zero_le _, cell_blk _ _ _ hc, hc⟩
theorem openEng {H : Type} {enc : TypeId × Value → H} {W : World} {base : Nat} {v : Value} {d : DataW H} {p : List MemPlace} (hval : Value.okWide Tryd.prog W .any base 24 v)
    (h : DataW.Trod enc Tryd.prog W 0 (fun _ => true) true 24 v d p) : ∃ u zs, v = .agg #[u] ∧ LiesS W 0 W.heap.size u zs ∧ ∀ c ∈ zs, c.size ≤ 9223372036854775807 := by
  obtain ⟨cs, rfl, hcs⟩ := okWide_struct Tryd.underlying24 hval
  have hone : Tryd.prog.cellsOf 24 = 1 := by kernel_rfl
  rw [hone] at hcs
  obtain ⟨u, rfl⟩ : ∃ u, cs = #[u] := ⟨cs[0], by
    apply Array.ext
    · simpa using hcs
    · intro i h1 h2
      obtain rfl : i = 0 := by omega
      rfl⟩
  obtain ⟨fuel, hf⟩ := h
  obtain ⟨y0, n, hx, _, hy⟩ := trod_struct1 Tryd.underlying24 hf
  have hc1 : Tryd.prog.cellsOf 22 = 1 := by kernel_rfl
  have hy' : DataW.trod enc Tryd.prog W 0 (fun _ => true) true n 22 [u] = some y0 := by
    have : (((Value.agg #[u]).cells.toList.drop 0).take (Tryd.prog.cellsOf 22)) = [u] := by rw [hc1]; rfl
    rw [← this]
    exact hy
  refine ⟨u, ?_⟩
  rcases open_strings Tryd.underlying22 Tryd.underlying9 (by kernel_rfl) hy' with ⟨hcs, _⟩ | ⟨x, l, c, ss, hcs, _, hl, hm, hz, _, hcell, hsz⟩
  · obtain rfl : u = .slice none 0 0 := by simpa using hcs
    exact ⟨[], rfl, (RowS.nil W 0 W.heap.size none 0 (Nat.zero_le _) (fun _ => rfl)).lies, fun c hc => by simp at hc⟩
  · obtain rfl : u = .slice (some x) l c := by simpa using hcs
    refine ⟨ss.take l, rfl, liesS_row W x l c ss hl hm (by simp at hz; omega) hcell, fun s hs => ?_⟩
    have := hsz s (List.mem_of_mem_take hs)
    unfold maxLen at this
    omega
end Go.Proofs.YtliakbgigkajnaaDoor
