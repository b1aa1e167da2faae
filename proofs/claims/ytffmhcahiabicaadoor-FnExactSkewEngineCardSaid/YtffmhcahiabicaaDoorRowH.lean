/-
  A column and marks of its wheels read into rows of wheels. Condition: texts of at most 2 to the power of 63, minus 1, bytes.
-/
import Derived.Test.YtffmhcahiabicaaDoorRowG
namespace Go.Proofs.YtffmhcahiabicaaDoor
set_option maxRecDepth 4000
open Go.RowKit
/-- A text of marks. -/
def marks (m : ByteArray) : Bool := m.data.toList.all isMark
/-- A column and marks of its wheels. -/
def flagged (c m : ByteArray) : Bool := ok c && decide (m.size = c.size) && marks m
theorem flagged_iff (c m : ByteArray) : flagged c m = true ↔ ok c = true ∧ m.size = c.size ∧ marks m = true := by
  unfold flagged
  rw [Bool.and_eq_true, Bool.and_eq_true, decide_eq_true_eq, and_assoc]
theorem marks_iff (m : ByteArray) : marks m = true ↔ ∀ c ∈ m.data.toList, (c.toNat : Int) = 48 ∨ (c.toNat : Int) = 49 := by
  unfold marks
  rw [List.all_eq_true]
  constructor
  · intro h c hc
    have := h c hc
    simp only [isMark, Bool.or_eq_true, beq_iff_eq, ← UInt8.toNat_inj] at this
    simp at this
    omega
  · intro h c hc
    have := h c hc
    simp only [isMark, Bool.or_eq_true, beq_iff_eq, ← UInt8.toNat_inj]
    simp
    omega
theorem flagged_facts (c m : ByteArray) (h : flagged c m = true) : ok c = true ∧ ok m = true ∧ m.size = c.size ∧ flags (dgS m) := by
  obtain ⟨h1, h2, h3⟩ := (flagged_iff c m).1 h
  have hm := (marks_iff m).1 h3
  have ⟨_, l1, l2⟩ := (ok_iff c).1 h1
  refine ⟨h1, (ok_iff m).2 ⟨fun x hx => by have := hm x hx; omega, by omega, by omega⟩, h2, ?_⟩
  intro d hd
  simp only [dgS, dg, List.mem_map, List.mem_reverse] at hd
  obtain ⟨x, hx, rfl⟩ := hd
  have := hm x hx
  omega
end Go.Proofs.YtffmhcahiabicaaDoor
