/-
  A law's slice of texts that came in. No conditions.
-/
import Derived.Test.YtihjfbjbfegkjaaDoorRows
import Derived.Test.YtihjfbjbfegkjaaDoorSs
import Derived.SliceStrings
import Derived.ChangeSame
import Derived.ProofKit
import Derived.OpenShut
import Derived.ShutString
import Derived.ChangeOld
import Derived.Below
namespace Go.Proofs.YtihjfbjbfegkjaaDoor
set_option maxRecDepth 4000
set_option linter.unusedVariables false
open Go.ChangeShapes Go.WideShapes Go.ChangeAt Go.RowKit
theorem lieS_row' (w : World) (x : Addr) (l c : Nat) (ss : List ByteArray) (hl : l ≤ c) (hm : c ≤ maxLen) (hz : l ≤ ss.length) (hcell : ∀ i, i < ss.length → w.cell? (x.add i) = some (.string (ss.getD i ByteArray.empty))) : LiesS w 0 w.heap.size (.slice (some x) l c) (ss.take l) := by
  have hlen : (ss.take l).length = l := by rw [List.length_take]; omega
  refine ⟨some x, c, by rw [hlen], by omega, hm, (fun h => by cases h), fun j z hj => ?_⟩
  have hjl := (List.getElem?_eq_some_iff.1 hj).1
  have hc := hcell j (by omega)
  have h0 := hcell 0 (by omega)
  obtain ⟨b, off, spot⟩ := x
  have hspot : spot = none := by simpa [Addr.add] using World.cell?_spot h0
  subst hspot
  have e : (⟨b, off, none⟩ : Addr).add j = ⟨b, off + j, none⟩ := by simp [Addr.add]
  rw [e] at hc
  rw [List.getElem?_take, if_pos (by omega)] at hj
  rw [List.getD_eq_getElem?_getD, hj] at hc
  exact ⟨b, off, rfl, Nat.zero_le _, cell_blk _ _ _ hc, hc⟩
theorem openTexts {H : Type} {enc : TypeId × Value → H} {W : World} {base : Nat} {v : Value} {d : DataW H} {p : List MemPlace} (hval : Value.okWide Tryd.prog W .any base 27 v)
    (h : DataW.Trod enc Tryd.prog W 0 (fun _ => true) true 27 v d p) : ∃ zs, LiesS W 0 W.heap.size v zs ∧ ∀ c ∈ zs, c.size ≤ 9223372036854775807 := by
  obtain ⟨a, len, cap, rfl⟩ := okWide_slice Tryd.underlying27 hval
  obtain ⟨fuel, hf⟩ := h
  rcases open_strings Tryd.underlying27 Tryd.underlying9 (by kernel_rfl) hf with ⟨hcs, _⟩ | ⟨x, l, c, ss, hcs, _, hl, hm, hz, _, hcell, hsz⟩
  · simp [Value.cells] at hcs
    obtain ⟨rfl, rfl, rfl⟩ := hcs
    exact ⟨[], (RowS.nil W 0 W.heap.size none 0 (Nat.zero_le _) (fun _ => rfl)).lies, fun c hc => by simp at hc⟩
  · simp [Value.cells] at hcs
    obtain ⟨rfl, rfl, rfl⟩ := hcs
    refine ⟨ss.take len, lieS_row' W x len cap ss hl hm (by simp at hz; omega) hcell, fun s hs => ?_⟩
    have := hsz s (List.mem_of_mem_take hs)
    unfold maxLen at this
    omega
end Go.Proofs.YtihjfbjbfegkjaaDoor
