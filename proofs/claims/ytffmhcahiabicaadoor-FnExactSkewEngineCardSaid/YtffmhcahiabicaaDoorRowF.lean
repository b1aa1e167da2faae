/-
  Carries of a row of wheels in sequence, and how often. Condition: the row and the marks have the same width, between 1 and 12.
-/
import Derived.Test.YtffmhcahiabicaaDoorRowE
namespace Go.Proofs.YtffmhcahiabicaaDoor
set_option maxRecDepth 4000
open Go.RowKit
theorem pad_zero (M : List Int) (hM : digs M) : (pad M).all (· == 0) = decide (num M = 0) := by
  rw [Bool.eq_iff_iff, decide_eq_true_eq, List.all_eq_true]
  constructor
  · intro h
    have hz : ∀ d ∈ M, d = 0 := fun d hd => by
      have := h d (by unfold pad; exact List.mem_append_left _ hd)
      simpa using this
    exact lowZ_num M fun j d _ hj => hz d (List.mem_of_getElem? hj)
  · intro h d hd
    unfold pad at hd
    rcases List.mem_append.1 hd with hd | hd
    · simpa using num_zero M hM h d hd
    · simpa using (List.mem_replicate.1 hd).2
/-- What holds of memory and of the numbers after k times of carries. -/
structure Rounds (w : World) (b n : Nat) (A M : List Int) (k : Nat) (wr : World) (A' M' : List Int) : Prop where
  le : k ≤ n
  low : lowZ k M'
  lenA : A'.length = n
  lenM : M'.length = n
  digA : digs A'
  flagM : flags M'
  fin : (allD (n - k) A' M').1 = (allD n A M).1
  cnt : k + (allD (n - k) A' M').2 = (allD n A M).2
  row : RowAt wr b n (pad A')
  mark : RowAt wr w.heap.size n (pad M')
  onto : Onto b w wr
theorem Rounds.next {w : World} {b n : Nat} {A M : List Int} {k : Nat} {wr : World} {A' M' : List Int} (h : Rounds w b n A M k wr A' M') (hz : num M' ≠ 0) (hlt : b < w.heap.size) {w' : World}
    (hr : RowAt w' b n (pad (turnD A' (upD M')))) (ho : Onto b wr w') :
    k < n ∧ Rounds w b n A M (k + 1) (w'.setRow w.heap.size (rowC n (pad (passD A' (upD M'))))) (turnD A' (upD M')) (passD A' (upD M')) := by
  have hk : k < n := by
    have := h.le
    by_cases e : k = n
    · subst e
      exact absurd (lowZ_num M' (by rw [h.lenM]; exact h.low)) hz
    · omega
  have ul : (upD M').length = n := by rw [upD_length, h.lenM]
  have ud : digs (upD M') := upD_digs M' (flags_digs h.flagM)
  obtain ⟨f, hf⟩ : ∃ f, n - k = f + 1 := ⟨n - k - 1, by omega⟩
  have e1 : n - (k + 1) = f := by omega
  have hg := allD_go f A' M' hz
  have hfin := h.fin
  have hcnt := h.cnt
  rw [hf, hg] at hfin hcnt
  simp only at hfin hcnt
  refine ⟨hk, ⟨by omega, ?_, ?_, ?_, turnD_digs _ _, passD_flags _ _ h.digA ud, by rw [e1]; exact hfin, by rw [e1]; omega, ?_, ?_, ?_⟩⟩
  · exact lowZ_pass k A' M' h.digA (by rw [h.lenA, h.lenM]) h.low
  · rw [turnD_length _ _ (by rw [h.lenA, ul]), h.lenA]
  · rw [passD_length _ _ (by rw [h.lenA, ul]), h.lenA]
  · exact hr.setRowOther _ _ (by omega)
  · exact RowAt.setRow (h.mark.onto ho (by omega)) n _
  · exact (h.onto.trans ho).setRow _ _ (by omega)
end Go.Proofs.YtffmhcahiabicaaDoor
