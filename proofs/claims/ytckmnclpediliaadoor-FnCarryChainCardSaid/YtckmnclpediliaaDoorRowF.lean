/-
  Carries of a row of wheels in sequence, and how often. Condition: the row and the marks have the same width, between 1 and 12.
-/
import Derived.Test.YtckmnclpediliaaDoorRowE
namespace Go.Proofs.YtckmnclpediliaaDoor
set_option maxRecDepth 4000
open Go.RowKit
theorem pad_zero (M : List Int) (hM : digs M) : (pad M).all (· == 0) = decide (num M = 0) := by
  rw [Bool.eq_iff_iff, decide_eq_true_eq, List.all_eq_true]
  constructor
  · intro h
    have hz : ∀ d ∈ M, d = 0 := fun d hd => by
      have := h d (by unfold pad; exact List.mem_append_left _ hd)
      simpa using this
    exact lowZ_num M fun j d _ hj => hz d (List.mem_of_getElem? hj)
  · intro h d hd
    unfold pad at hd
    rcases List.mem_append.1 hd with hd | hd
    · simpa using num_zero M hM h d hd
    · simpa using (List.mem_replicate.1 hd).2
/-- What holds of memory and of the numbers after k times of carries. -/
structure Rounds (w : World) (b n : Nat) (A M : List Int) (k : Nat) (wr : World) (A' M' : List Int) : Prop where
  le : k ≤ n
  low : lowZ k M'
  lenA : A'.length = n
  lenM : M'.length = n
  digA : digs A'
  flagM : flags M'
  fin : (allD (n - k) A' M').1 = (allD n A M).1
  cnt : k + (allD (n - k) A' M').2 = (allD n A M).2
  row : RowAt wr b n (pad A')
  mark : RowAt wr w.heap.size n (pad M')
  onto : Onto b w wr
theorem Rounds.next {w : World} {b n : Nat} {A M : List Int} {k : Nat} {wr : World} {A' M' : List Int} (h : Rounds w b n A M k wr A' M') (hz : num M' ≠ 0) (hlt : b < w.heap.size) {w' : World}
    (hr : RowAt w' b n (pad (turnD A' (upD M')))) (ho : Onto b wr w') :
    k < n ∧ Rounds w b n A M (k + 1) (w'.setRow w.heap.size (rowC n (pad (passD A' (upD M'))))) (turnD A' (upD M')) (passD A' (upD M')) := by
  have hk : k < n := by
    have := h.le
    by_cases e : k = n
    · subst e
      exact absurd (lowZ_num M' (by rw [h.lenM]; exact h.low)) hz
    · omega
  have ul : (upD M').length = n := by rw [upD_length, h.lenM]
  have ud : digs (upD M') := upD_digs M' (flags_digs h.flagM)
  obtain ⟨f, hf⟩ : ∃ f, n - k = f + 1 := ⟨n - k - 1, by omega⟩
  have e1 : n - (k + 1) = f := by omega
  have hg := allD_go f A' M' hz
  have hfin := h.fin
  have hcnt := h.cnt
  rw [hf, hg] at hfin hcnt
  simp only at hfin hcnt
  refine ⟨hk, ⟨by omega, ?_, ?_, ?_, turnD_digs _ _, passD_flags _ _ h.digA ud, by rw [e1]; exact hfin, by rw [e1]; omega, ?_, ?_, ?_⟩⟩
  · exact lowZ_pass k A' M' h.digA (by rw [h.lenA, h.lenM]) h.low
  · rw [turnD_length _ _ (by rw [h.lenA, ul]), h.lenA]
  · rw [passD_length _ _ (by rw [h.lenA, ul]), h.lenA]
  · exact hr.setRowOther _ _ (by omega)
  · exact RowAt.setRow (h.mark.onto ho (by omega)) n _
  · exact (h.onto.trans ho).setRow _ _ (by omega)
set_option maxHeartbeats 1600000 in
theorem all_any (b n : Nat) (A M : List Int) (hn1 : 1 ≤ n) (hn : n ≤ 12) (hA : A.length = n) (hM : M.length = n) (dA : digs A) (dM : flags M) (w : World) (hR : RowAt w b n (pad A)) :
    Calls Tryd.prog 11 #[.pointer (some ⟨b, 0, none⟩), .agg (rowC n (pad M))] w fun e w' => e = .returned (.int .i64 (allD n A M).2) ∧ RowAt w' b n (pad (allD n A M).1) ∧ Onto b w w' := by
  have hlt := hR.lt
  have H0 : Hid (Rounds w b n A M 0 (w.alloc (.cells (rowC n (pad M)) 31)) A M) :=
    ⟨Nat.zero_le _, fun j d hj => absurd hj (Nat.not_lt_zero _), hA, hM, dA, dM, rfl, by rw [Nat.sub_zero]; omega, hR.alloc _, RowAt.fresh w n (pad M), (Onto.refl _ _).alloc _⟩
  clear hR hA hM dA dM
  go_enter Tryd.func11, Tryd.ntmps11
  go_wp2
  go_loopw [5] (fun t wr => ∃ (k : Nat) (A' M' : List Int), t = .int .i64 k ∧ Rounds w b n A M k wr A' M' ∧ w.heap.size < wr.heap.size) (fun t _ => n - (intOf t).toNat)
  case atStart => exact ⟨0, A, M, rfl, H0.out, by simp⟩
  case round =>
    obtain ⟨k, A', M', rfl, hT, hsz⟩ := hrel
    have HT := hidH hT
    have l1 : (pad M').length = 12 := pad_length _ (by rw [hT.lenM]; exact hn)
    have HM := hidH (marked_any w.heap.size n (pad M') l1 wr hT.mark)
    have S1 := hidH (row_size n _ l1)
    have HZ := hidH (pad_zero M' (flags_digs hT.flagM))
    have hk12 : k ≤ 12 := by have := hT.le; omega
    clear hT l1
    by_cases hz : num M' = 0
    · have HN := hidH hz
      have HE : Hid ((!((pad M').all (· == 0))) = false) := by
        show _ = _
        rw [HZ.out, decide_eq_true hz]; rfl
      clear hz
      rw [HE.out] at HM
      go_wp2_with fail
      refine HM.out.mono ?_
      rintro e w' ⟨rfl, rfl⟩
      have hs := allD_stop (n - k) A' M' HN.out
      have hf := HT.out.fin
      have hc := HT.out.cnt
      rw [hs] at hf hc
      simp only [Nat.add_zero] at hf hc
      have HF := hidH hf
      have HC := hidH hc
      clear hs hf hc
      go_wp2
      go_ret
      exact ⟨by rw [← HC.out]; rfl, by rw [← HF.out]; exact HT.out.row, HT.out.onto⟩
    · have HN := hidH hz
      have HE : Hid ((!((pad M').all (· == 0))) = true) := by
        show _ = _
        rw [HZ.out, decide_eq_false hz]; rfl
      clear hz
      rw [HE.out] at HM
      have l2 : (pad (passD A' (upD M'))).length = 12 := pad_length _ (by rw [passD_length _ _ (by rw [upD_length, HT.out.lenA, HT.out.lenM]), HT.out.lenA]; exact hn)
      have S2 := hidH (row_size n _ l2)
      have SE := hidH (show (rowC n (pad M')).size = (rowC n (pad (passD A' (upD M')))).size by rw [rowC_size, rowC_size, l2, pad_length _ (by rw [HT.out.lenM]; exact hn)])
      have SN := hidH (row_one n (pad (passD A' (upD M'))))
      clear l2
      have HO := hidH (once_any b n A' M' hn1 hn HT.out.lenA HT.out.lenM HT.out.digA (flags_digs HT.out.flagM) wr HT.out.row)
      go_wp2_with fail
      refine HM.out.mono ?_
      rintro e w' ⟨rfl, rfl⟩
      go_wp2_with (refine wpList_load_row rfl 31 _ rfl w.heap.size rfl 31 _ (0, 0) _ HT.out.mark Tryd.underlying31 rfl S1.out ?_)
      refine HO.out.mono ?_
      rintro e w' ⟨rfl, hr, ho⟩
      obtain ⟨hk, hnext⟩ := HT.out.next HN.out hlt hr ho
      have HX := hidH hnext
      have MK := hidH (HT.out.mark.onto ho (by omega))
      have hs2 : w.heap.size < (w'.setRow w.heap.size (rowC n (pad (passD A' (upD M'))))).heap.size := by
        have := ho.size
        rw [size_setRow]; omega
      have HS2 := hidH hs2
      clear hnext hr ho hs2
      go_wp2_with (refine wpList_store_row rfl 31 _ _ rfl w.heap.size _ rfl rfl 31 _ MK.out S2.out SE.out SN.out ?_)
      go_roundw
      case rel => exact ⟨k + 1, _, _, by go_num, HX.out, HS2.out⟩
      case measure => simp [intOf]; omega
end Go.Proofs.YtckmnclpediliaaDoor
