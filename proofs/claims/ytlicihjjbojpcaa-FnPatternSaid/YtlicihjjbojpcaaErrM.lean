/-
  The part of its pattern that an error adds to a row of differences: the program. No conditions but bounds of numbers.
-/
import Derived.Test.YtlicihjjbojpcaaErrFm
import Derived.Test.YtlicihjjbojpcaaErrB
namespace Go.Proofs.Ytlicihjjbojpcaa
set_option maxRecDepth 4000
open Go.RowKit
theorem coef_high (o at_ i : Nat) (h : at_ < i) : coefN o at_ i = 0 := by rw [coefN, if_neg (by omega)]
/-- What is 0 already need not be filled. -/
theorem fill_skip (T : List Int) (a : Nat) : ∀ d, (∀ j, a ≤ j → j < a + d → T[j]? = some 0) → fill T (a + d) = fill T a := by
  intro d
  induction d with
  | zero => intro _; rfl
  | succ d ih =>
    intro h
    have h1 := h (a + d) (by omega) (by omega)
    have hlt : a + d < T.length := (List.getElem?_eq_some_iff.1 h1).1
    have h2 := fill_at T (a + d) hlt
    rw [show a + (d + 1) = a + d + 1 by omega, ← fill_set T (a + d) 0 h1, ih (fun j hj1 hj2 => h j hj1 (by omega))]
    rw [ih (fun j hj1 hj2 => h j hj1 (by omega))] at h2
    refine List.ext_getElem? fun i => ?_
    rw [List.getElem?_set]
    split
    · rename_i e; subst e
      rw [h2]; split
      · rfl
      · rename_i hn; rw [List.getElem?_eq_none (by omega)] at h2; cases h2
    · rfl
theorem err_zero (o at_ : Nat) (a : Int) (L j : Nat) (hj : j < L) (h : j < at_ - o ∨ at_ < j) : (errL o at_ a L)[j]? = some 0 := by
  rw [errL_get o at_ a L j hj]
  rcases h with h | h
  · rw [coef_low o at_ j h, Int.zero_mul]
  · rw [coef_high o at_ j h, Int.zero_mul]
theorem err_start (o at_ : Nat) (a : Int) (L : Nat) (h : at_ - o ≤ L) : fill (errL o at_ a L) (at_ - o) = List.replicate L 0 := by
  have := fill_skip (errL o at_ a L) 0 (at_ - o) (fun j _ hj => err_zero o at_ a L j (by omega) (.inl (by omega)))
  rw [Nat.zero_add] at this
  rw [this, fill_zero, errL_length]
theorem err_end (o at_ : Nat) (a : Int) (L k : Nat) (hk : k ≤ L) (h : at_ < k ∨ k = L) : fill (errL o at_ a L) k = errL o at_ a L := by
  have := fill_skip (errL o at_ a L) k (L - k) (fun j h1 hj => err_zero o at_ a L j (by omega) (.inr (by omega)))
  rw [← this, show k + (L - k) = L by omega]
  have e := fill_all (errL o at_ a L)
  rwa [errL_length] at e
theorem err_set (o at_ : Nat) (a : Int) (L i : Nat) (ho : o ≤ 7) (hi : i < L) (h1 : i ≤ at_) (h2 : at_ ≤ i + o) : (fill (errL o at_ a L) i).set i (sg (i + o - at_) * chN o (i + o - at_) * a) = fill (errL o at_ a L) (i + 1) :=
  fill_set _ i _ (by rw [errL_get o at_ a L i hi, coef_pat o at_ i ho h1 h2])
set_option maxHeartbeats 1600000 in
theorem errRow_any (c o at_ L : Nat) (a : Int) (hc : c = L + o) (ho : o ≤ 7) (h0 : at_ < L + o) (hL : L ≤ 60) (h1 : -1000000000000 ≤ a) (h2 : a ≤ 1000000000000) (w : World) : Calls Try.prog 45 #[.int .i64 c, .int .i64 o, .int .i64 at_, .int .i64 a] w (NewRow (errL o at_ a L) w) := by
  have HP := hidH (pat_any o ho a h1 h2 w)
  have HPL := hidH (patL_length o a)
  by_cases hlo : at_ < o
  · have hlo2 : (at_ : Int) - (o : Int) < 0 := by omega
    by_cases hhi : at_ + 1 ≤ L
    · have HS := hidH (err_start o at_ a L (by omega))
      have HEE := hidH (fun k => err_end o at_ a L k)
      have HST := hidH (fun i => err_set o at_ a L i ho)
      go_enter Try.func45, Try.ntmps45
      go_wp2_with fail
      refine HP.out.mono ?_; rintro e w1 ⟨pv, rfl, hr, hb⟩
      obtain ⟨pb, pcap, rfl, hpc, hpm, hp1, hp2, hpk⟩ := hr.blk (by rw [HPL.out]; omega)
      rw [HPL.out] at hpc
      rw [HPL.out]
      have HPK := hidH hpk
      have HB1 := hidH hb
      unfold maxLen at hpm
      clear hr hb hpk HP
      have HM := hidH (Blk.made w1 3 L)
      have hmk := run_make_row' (P := Try.prog) 23 3 (.int .i64 0) 8 Try.underlying23 infoInt rfl .i64 .i64 L (by omega) (by omega) w1
      have hcl : (c : Int) - (o : Int) = (L : Int) := by omega
      go_wp2_with fail
      go_loopw [11] (fun i wr => ∃ k : Nat, at_ - o ≤ k ∧ k ≤ L ∧ k ≤ at_ + 1 ∧ i = .int .i64 k ∧ Blk wr w1.heap.size (fill (errL o at_ a L) k) ∧ Below w1.heap.size w1 wr) (fun i _ => L - (intOf i).toNat)
      case atStart => exact ⟨at_ - o, Nat.le_refl _, by omega, by omega, by go_num, by rw [HS.out]; exact HM.out, (Below.refl _ _).alloc (Nat.le_refl _) _⟩
      case round =>
        obtain ⟨k, hk0, hk, hka, rfl, hblk, hbq⟩ := hrel
        have HBK := hidH hblk
        have HBq := hidH hbq
        clear hblk hbq
        by_cases hlt : k < L ∧ k ≤ at_
        · obtain ⟨hlt1, hlt2⟩ := hlt
          obtain ⟨ho1, hf⟩ := HBK.out.2 k 0 (fill_at _ _ (by rw [errL_length]; exact hlt1))
          have HSK := hidH (HST.out k hlt1 hlt2 (by omega))
          have hpi : (k : Int) - (at_ : Int) + (o : Int) = ((k + o - at_ : Nat) : Int) := by omega
          have hpl : k + o - at_ < o + 1 := by omega
          have hpc1 := ((HPK.out.below HBq.out).2 (k + o - at_) _ (patL_get o a _ (by omega))).1
          go_wp2_with fail
          have HX := hidH (HBK.out.set k (sg (k + o - at_) * chN o (k + o - at_) * a))
          go_roundw
          case rel => exact ⟨k + 1, by omega, by omega, by omega, by go_num, by rw [← HSK.out]; exact HX.out, HBq.out.setCell (Nat.le_refl _) _⟩
          case measure => simp [intOf]; omega
        · have hge : k = at_ + 1 := by omega
          subst hge
          have HEN := hidH (HEE.out _ hk (by omega))
          go_wp2_with fail
          go_ret
          have h := HBK.out
          rw [HEN.out] at h
          exact ⟨_, rfl, (h.row (lo := w1.heap.size) (Nat.le_refl _) h.1 (by rw [errL_length]; exact Nat.le_refl _) (by unfold maxLen; omega) (errL_length _ _ _ _).symm).mono HB1.out.size (Nat.le_refl _), HB1.out.trans (HBq.out.mono HB1.out.size)⟩
    · have HS := hidH (err_start o at_ a L (by omega))
      have HEE := hidH (fun k => err_end o at_ a L k)
      have HST := hidH (fun i => err_set o at_ a L i ho)
      go_enter Try.func45, Try.ntmps45
      go_wp2_with fail
      refine HP.out.mono ?_; rintro e w1 ⟨pv, rfl, hr, hb⟩
      obtain ⟨pb, pcap, rfl, hpc, hpm, hp1, hp2, hpk⟩ := hr.blk (by rw [HPL.out]; omega)
      rw [HPL.out] at hpc
      rw [HPL.out]
      have HPK := hidH hpk
      have HB1 := hidH hb
      unfold maxLen at hpm
      clear hr hb hpk HP
      have HM := hidH (Blk.made w1 3 L)
      have hmk := run_make_row' (P := Try.prog) 23 3 (.int .i64 0) 8 Try.underlying23 infoInt rfl .i64 .i64 L (by omega) (by omega) w1
      have hcl : (c : Int) - (o : Int) = (L : Int) := by omega
      go_wp2_with fail
      go_loopw [11] (fun i wr => ∃ k : Nat, at_ - o ≤ k ∧ k ≤ L ∧ k ≤ at_ + 1 ∧ i = .int .i64 k ∧ Blk wr w1.heap.size (fill (errL o at_ a L) k) ∧ Below w1.heap.size w1 wr) (fun i _ => L - (intOf i).toNat)
      case atStart => exact ⟨at_ - o, Nat.le_refl _, by omega, by omega, by go_num, by rw [HS.out]; exact HM.out, (Below.refl _ _).alloc (Nat.le_refl _) _⟩
      case round =>
        obtain ⟨k, hk0, hk, hka, rfl, hblk, hbq⟩ := hrel
        have HBK := hidH hblk
        have HBq := hidH hbq
        clear hblk hbq
        by_cases hlt : k < L ∧ k ≤ at_
        · obtain ⟨hlt1, hlt2⟩ := hlt
          obtain ⟨ho1, hf⟩ := HBK.out.2 k 0 (fill_at _ _ (by rw [errL_length]; exact hlt1))
          have HSK := hidH (HST.out k hlt1 hlt2 (by omega))
          have hpi : (k : Int) - (at_ : Int) + (o : Int) = ((k + o - at_ : Nat) : Int) := by omega
          have hpl : k + o - at_ < o + 1 := by omega
          have hpc1 := ((HPK.out.below HBq.out).2 (k + o - at_) _ (patL_get o a _ (by omega))).1
          go_wp2_with fail
          have HX := hidH (HBK.out.set k (sg (k + o - at_) * chN o (k + o - at_) * a))
          go_roundw
          case rel => exact ⟨k + 1, by omega, by omega, by omega, by go_num, by rw [← HSK.out]; exact HX.out, HBq.out.setCell (Nat.le_refl _) _⟩
          case measure => simp [intOf]; omega
        · have hge : k = L := by omega
          subst hge
          have HEN := hidH (HEE.out _ hk (by omega))
          go_wp2_with fail
          go_ret
          have h := HBK.out
          rw [HEN.out] at h
          exact ⟨_, rfl, (h.row (lo := w1.heap.size) (Nat.le_refl _) h.1 (by rw [errL_length]; exact Nat.le_refl _) (by unfold maxLen; omega) (errL_length _ _ _ _).symm).mono HB1.out.size (Nat.le_refl _), HB1.out.trans (HBq.out.mono HB1.out.size)⟩
  · have hlo2 : ¬ ((at_ : Int) - (o : Int) < 0) := by omega
    by_cases hhi : at_ + 1 ≤ L
    · have HS := hidH (err_start o at_ a L (by omega))
      have HEE := hidH (fun k => err_end o at_ a L k)
      have HST := hidH (fun i => err_set o at_ a L i ho)
      go_enter Try.func45, Try.ntmps45
      go_wp2_with fail
      refine HP.out.mono ?_; rintro e w1 ⟨pv, rfl, hr, hb⟩
      obtain ⟨pb, pcap, rfl, hpc, hpm, hp1, hp2, hpk⟩ := hr.blk (by rw [HPL.out]; omega)
      rw [HPL.out] at hpc
      rw [HPL.out]
      have HPK := hidH hpk
      have HB1 := hidH hb
      unfold maxLen at hpm
      clear hr hb hpk HP
      have HM := hidH (Blk.made w1 3 L)
      have hmk := run_make_row' (P := Try.prog) 23 3 (.int .i64 0) 8 Try.underlying23 infoInt rfl .i64 .i64 L (by omega) (by omega) w1
      have hcl : (c : Int) - (o : Int) = (L : Int) := by omega
      go_wp2_with fail
      go_loopw [11] (fun i wr => ∃ k : Nat, at_ - o ≤ k ∧ k ≤ L ∧ k ≤ at_ + 1 ∧ i = .int .i64 k ∧ Blk wr w1.heap.size (fill (errL o at_ a L) k) ∧ Below w1.heap.size w1 wr) (fun i _ => L - (intOf i).toNat)
      case atStart => exact ⟨at_ - o, Nat.le_refl _, by omega, by omega, by go_num, by rw [HS.out]; exact HM.out, (Below.refl _ _).alloc (Nat.le_refl _) _⟩
      case round =>
        obtain ⟨k, hk0, hk, hka, rfl, hblk, hbq⟩ := hrel
        have HBK := hidH hblk
        have HBq := hidH hbq
        clear hblk hbq
        by_cases hlt : k < L ∧ k ≤ at_
        · obtain ⟨hlt1, hlt2⟩ := hlt
          obtain ⟨ho1, hf⟩ := HBK.out.2 k 0 (fill_at _ _ (by rw [errL_length]; exact hlt1))
          have HSK := hidH (HST.out k hlt1 hlt2 (by omega))
          have hpi : (k : Int) - (at_ : Int) + (o : Int) = ((k + o - at_ : Nat) : Int) := by omega
          have hpl : k + o - at_ < o + 1 := by omega
          have hpc1 := ((HPK.out.below HBq.out).2 (k + o - at_) _ (patL_get o a _ (by omega))).1
          go_wp2_with fail
          have HX := hidH (HBK.out.set k (sg (k + o - at_) * chN o (k + o - at_) * a))
          go_roundw
          case rel => exact ⟨k + 1, by omega, by omega, by omega, by go_num, by rw [← HSK.out]; exact HX.out, HBq.out.setCell (Nat.le_refl _) _⟩
          case measure => simp [intOf]; omega
        · have hge : k = at_ + 1 := by omega
          subst hge
          have HEN := hidH (HEE.out _ hk (by omega))
          go_wp2_with fail
          go_ret
          have h := HBK.out
          rw [HEN.out] at h
          exact ⟨_, rfl, (h.row (lo := w1.heap.size) (Nat.le_refl _) h.1 (by rw [errL_length]; exact Nat.le_refl _) (by unfold maxLen; omega) (errL_length _ _ _ _).symm).mono HB1.out.size (Nat.le_refl _), HB1.out.trans (HBq.out.mono HB1.out.size)⟩
    · have HS := hidH (err_start o at_ a L (by omega))
      have HEE := hidH (fun k => err_end o at_ a L k)
      have HST := hidH (fun i => err_set o at_ a L i ho)
      go_enter Try.func45, Try.ntmps45
      go_wp2_with fail
      refine HP.out.mono ?_; rintro e w1 ⟨pv, rfl, hr, hb⟩
      obtain ⟨pb, pcap, rfl, hpc, hpm, hp1, hp2, hpk⟩ := hr.blk (by rw [HPL.out]; omega)
      rw [HPL.out] at hpc
      rw [HPL.out]
      have HPK := hidH hpk
      have HB1 := hidH hb
      unfold maxLen at hpm
      clear hr hb hpk HP
      have HM := hidH (Blk.made w1 3 L)
      have hmk := run_make_row' (P := Try.prog) 23 3 (.int .i64 0) 8 Try.underlying23 infoInt rfl .i64 .i64 L (by omega) (by omega) w1
      have hcl : (c : Int) - (o : Int) = (L : Int) := by omega
      go_wp2_with fail
      go_loopw [11] (fun i wr => ∃ k : Nat, at_ - o ≤ k ∧ k ≤ L ∧ k ≤ at_ + 1 ∧ i = .int .i64 k ∧ Blk wr w1.heap.size (fill (errL o at_ a L) k) ∧ Below w1.heap.size w1 wr) (fun i _ => L - (intOf i).toNat)
      case atStart => exact ⟨at_ - o, Nat.le_refl _, by omega, by omega, by go_num, by rw [HS.out]; exact HM.out, (Below.refl _ _).alloc (Nat.le_refl _) _⟩
      case round =>
        obtain ⟨k, hk0, hk, hka, rfl, hblk, hbq⟩ := hrel
        have HBK := hidH hblk
        have HBq := hidH hbq
        clear hblk hbq
        by_cases hlt : k < L ∧ k ≤ at_
        · obtain ⟨hlt1, hlt2⟩ := hlt
          obtain ⟨ho1, hf⟩ := HBK.out.2 k 0 (fill_at _ _ (by rw [errL_length]; exact hlt1))
          have HSK := hidH (HST.out k hlt1 hlt2 (by omega))
          have hpi : (k : Int) - (at_ : Int) + (o : Int) = ((k + o - at_ : Nat) : Int) := by omega
          have hpl : k + o - at_ < o + 1 := by omega
          have hpc1 := ((HPK.out.below HBq.out).2 (k + o - at_) _ (patL_get o a _ (by omega))).1
          go_wp2_with fail
          have HX := hidH (HBK.out.set k (sg (k + o - at_) * chN o (k + o - at_) * a))
          go_roundw
          case rel => exact ⟨k + 1, by omega, by omega, by omega, by go_num, by rw [← HSK.out]; exact HX.out, HBq.out.setCell (Nat.le_refl _) _⟩
          case measure => simp [intOf]; omega
        · have hge : k = L := by omega
          subst hge
          have HEN := hidH (HEE.out _ hk (by omega))
          go_wp2_with fail
          go_ret
          have h := HBK.out
          rw [HEN.out] at h
          exact ⟨_, rfl, (h.row (lo := w1.heap.size) (Nat.le_refl _) h.1 (by rw [errL_length]; exact Nat.le_refl _) (by unfold maxLen; omega) (errL_length _ _ _ _).symm).mono HB1.out.size (Nat.le_refl _), HB1.out.trans (HBq.out.mono HB1.out.size)⟩
end Go.Proofs.Ytlicihjjbojpcaa
