/-
  Runs of a table: parts of the program and of the model, at every argument. No conditions but that slices fit in memory.
-/
import Derived.Test.YteacpfejjphabaaPlanM
namespace Go.Proofs.Yteacpfejjphabaa
set_option maxRecDepth 4000
open Go.RowKit
theorem Lies.dropped {w : World} {lo hi b off n cap : Nat} {zs : List Int} (H : Lies w lo hi (.slice (some ⟨b, off, none⟩) n cap) zs) (k m c : Nat) (hk : k ≤ zs.length) (hm : m = zs.length - k) (hc : c = cap - k) : Lies w lo hi (.slice (some ⟨b, off + k, none⟩) m c) (zs.drop k) := by
  obtain ⟨a, cap', e, h1, h2, h3, h4⟩ := H
  injection e with e1 e2 e3
  subst e1; subst e3
  refine ⟨some ⟨b, off + k, none⟩, c, by rw [List.length_drop, hm], by rw [List.length_drop]; omega, by omega, (fun h => by cases h), fun j z hj => ?_⟩
  rw [List.getElem?_drop] at hj
  obtain ⟨b', off', e, x, y, hcc⟩ := h4 (k + j) z hj
  cases e
  exact ⟨b, off + k, rfl, x, y, by rwa [← Nat.add_assoc] at hcc⟩
theorem Lies.taken {w : World} {lo hi b off n cap : Nat} {zs : List Int} (H : Lies w lo hi (.slice (some ⟨b, off, none⟩) n cap) zs) (m : Nat) (hm : m ≤ zs.length) : Lies w lo hi (.slice (some ⟨b, off, none⟩) m cap) (zs.take m) := by
  obtain ⟨a, cap', e, h1, h2, h3, h4⟩ := H
  injection e with e1 e2 e3
  subst e1; subst e3
  refine ⟨some ⟨b, off, none⟩, cap, by rw [List.length_take, Nat.min_eq_left hm], by rw [List.length_take]; omega, h2, (fun h => by cases h), fun j z hj => ?_⟩
  have hjn : j < m := by have := (List.getElem?_eq_some_iff.1 hj).1; rw [List.length_take] at this; omega
  rw [List.getElem?_take, if_pos hjn] at hj
  exact h4 j z hj
/-! ### The program -/
/-! ### The model -/
/-- The polynomial of a run; nothing if there is none. -/
def runA (zs : List Int) (d : Int) : List Int := if leastL zs ≤ d then interA zs else []
theorem runA_len (zs : List Int) (d : Int) : (runA zs d).length ≤ 1048576 := by unfold runA; split <;> first | exact interA_len _ | simp
end Go.Proofs.Yteacpfejjphabaa
