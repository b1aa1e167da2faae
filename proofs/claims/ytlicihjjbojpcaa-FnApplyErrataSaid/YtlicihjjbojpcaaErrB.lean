/-
  ErrorPattern: the program and the model, at every argument. No conditions.
-/
import Derived.Test.YtlicihjjbojpcaaErrA
namespace Go.Proofs.Ytlicihjjbojpcaa
set_option maxRecDepth 4000
open Go.RowKit
theorem binom7_any (o : Nat) (ho : o ≤ 7) (k : Nat) (hk : k ≤ 8) (w : World) : Calls Try.prog 85 #[.int .i64 o, .int .i64 k] w fun e w' => e = .returned (.int .i64 (chN (o : Nat) k)) ∧ w = w' := by
  go_enter Try.func85, Try.ntmps85
  go_wp2
  go_loop [5, 8] (fun p i => ∃ j : Nat, j ≤ k ∧ i = .int .i64 j ∧ p = .int .i64 (chN (o : Nat) j)) (fun _ i => k - (intOf i).toNat)
  case atStart => exact ⟨0, Nat.zero_le _, rfl, rfl⟩
  case round =>
    obtain ⟨j, hj, rfl, rfl⟩ := hrel
    by_cases hlt : j < k
    · have ⟨b1, b2⟩ := chN_small_mul o (by omega) j (by omega)
      have ⟨b3, b4⟩ := chN_small o (by omega) j (by omega)
      have ⟨b5, b6⟩ := chN_small o (by omega) (j + 1) (by omega)
      go_wp2
      go_round
      case rel => exact ⟨j + 1, by omega, by go_num, by rw [chN]⟩
      case measure => simp [intOf]; omega
    · go_wp2
      obtain rfl : j = k := by omega
      go_ret
      exact ⟨rfl, rfl⟩
theorem sChoose7_any (o : Nat) (ho : o ≤ 7) (k : Nat) (hk : k ≤ 8) (w : World) : Calls Try.prog 69 #[.int .i64 o, .int .i64 k] w fun e w' => e = .returned (.int .i64 (chN (o : Nat) k)) ∧ w = w' := by
  go_enter Try.func69, Try.ntmps69
  go_wp2
  go_loop [5, 6] (fun p i => ∃ j : Nat, j ≤ k ∧ i = .int .i64 j ∧ p = .int .i64 (chN (o : Nat) j)) (fun _ i => k - (intOf i).toNat)
  case atStart => exact ⟨0, Nat.zero_le _, rfl, rfl⟩
  case round =>
    obtain ⟨j, hj, rfl, rfl⟩ := hrel
    by_cases hlt : j < k
    · have ⟨b1, b2⟩ := chN_small_mul o (by omega) j (by omega)
      have ⟨b3, b4⟩ := chN_small o (by omega) j (by omega)
      have ⟨b5, b6⟩ := chN_small o (by omega) (j + 1) (by omega)
      go_wp2
      go_round
      case rel => exact ⟨j + 1, by omega, by go_num, by rw [chN]⟩
      case measure => simp [intOf]; omega
    · go_wp2
      obtain rfl : j = k := by omega
      go_ret
      exact ⟨rfl, rfl⟩
theorem sSign_any (k : Nat) (w : World) (hk : k ≤ 1000) : Calls Try.prog 68 #[.int .i64 k] w fun e w' => e = .returned (.int .i64 (sg k)) ∧ w = w' := by
  by_cases h : k % 2 = 0
  · have HE := hidH (show sg k = 1 by rw [sg, if_pos h])
    have h2 : (k : Int) % 2 = 0 := by omega
    have h3 : (k : Int).tmod 2 = 0 := by rw [Int.tmod_eq_emod_of_nonneg (by omega)]; exact h2
    clear h
    go_enter Try.func68, Try.ntmps68
    go_wp2
    go_ret
    exact ⟨by rw [HE.out]; rfl, rfl⟩
  · have HE := hidH (show sg k = -1 by rw [sg, if_neg h])
    have h2 : (k : Int) % 2 = 1 := by omega
    have h3 : (k : Int).tmod 2 = 1 := by rw [Int.tmod_eq_emod_of_nonneg (by omega)]; exact h2
    clear h
    go_enter Try.func68, Try.ntmps68
    go_wp2
    go_ret
    exact ⟨by rw [HE.out]; rfl, rfl⟩
theorem fillp_set (o : Nat) (a m c : Int) (k : Nat) (hk : k ≤ o) (hm : m = sg k * a) (hc : c = chN (o : Nat) k) : (fill (patL o a) k).set k (m * c) = fill (patL o a) (k + 1) := by
  subst hm; subst hc
  exact fill_set _ k _ (by rw [patL_get o a k hk, Int.mul_assoc, Int.mul_assoc, Int.mul_comm a])
set_option maxHeartbeats 400000 in
theorem pat_any (o : Nat) (ho : o ≤ 7) (a : Int) (h1 : -1000000000000 ≤ a) (h2 : a ≤ 1000000000000) (w : World) : Calls Try.prog 66 #[.int .i64 o, .int .i64 a] w (NewRow (patL o a) w) := by
  have HLL := hidH (patL_length o a)
  have HM := hidH (Blk.made w 3 (o + 1))
  have hwo : wrap64 ((o : Int) + 1) = ((o + 1 : Nat) : Int) := by rw [wrap64_id _ (by omega) (by omega)]; omega
  have hmk := run_make_row' (P := Try.prog) 23 3 (.int .i64 0) 8 Try.underlying23 infoInt rfl .i64 .i64 (o + 1) (by omega) (by omega) w
  rw [show ((o + 1 : Nat) : Int) = (o : Int) + 1 by omega] at hmk
  go_enter Try.func66, Try.ntmps66
  go_wp2_with fail
  go_loopw [1, 12] (fun am i wr => ∃ (k : Nat) (m : Int), k ≤ o + 1 ∧ i = .int .i64 k ∧ am = .int .i64 m ∧ m = sg k * a ∧ Blk wr w.heap.size (fill (patL o a) k) ∧ Below w.heap.size w wr) (fun _ i _ => o + 1 - (intOf i).toNat)
  case atStart => exact ⟨0, a, Nat.zero_le _, rfl, rfl, by simp [sg], by have := HM.out; rw [fill_zero, HLL.out]; exact this, (Below.refl _ _).alloc (Nat.le_refl _) _⟩
  case round =>
    obtain ⟨k, m, hk, rfl, rfl, hm, hblk, hb⟩ := hrel
    have HBK := hidH hblk
    have HBq := hidH hb
    clear hblk hb
    by_cases hlt : k < o + 1
    · obtain ⟨ho1, hf⟩ := HBK.out.2 k 0 (fill_at _ _ (by rw [HLL.out]; exact hlt))
      have hma : -1000000000000 ≤ m ∧ m ≤ 1000000000000 := by rcases sg_abs k with e | e <;> rw [hm, e] <;> omega
      have HNM := hidH (show -m = sg (k + 1) * a by rw [sg_succ, hm, Int.neg_mul])
      have ⟨b1, b2⟩ := chN_small o (by omega) k (by omega)
      have HG := hidH (fillp_set o a m _ k (by omega) hm rfl)
      have HC := hidH (binom7_any o ho k (by omega) wr)
      have hab := abs_mul_le (a := m) (b := chN (o : Nat) k) (A := 1000000000000) (B := 35) (by omega) (by omega)
      have hp1 : -35000000000000 ≤ m * chN (o : Nat) k := by omega
      have hp2 : m * chN (o : Nat) k ≤ 35000000000000 := by omega
      clear hab hm
      generalize chN (o : Nat) k = c at *
      go_wp2_with fail
      refine HC.out.mono ?_; rintro e w2 ⟨rfl, rfl⟩
      have HST := hidH (HBK.out.set k (m * c))
      go_wp2_with fail
      go_roundw
      case rel => exact ⟨k + 1, -m, by omega, by go_num, by go_num, HNM.out, by rw [← HG.out]; exact HST.out, HBq.out.setCell (Nat.le_refl _) _⟩
      case measure => simp [intOf]; omega
    · obtain rfl : k = o + 1 := by omega
      go_wp2_with fail
      go_ret
      have h := HBK.out
      have e := fill_all (patL o a)
      rw [HLL.out] at e
      rw [e] at h
      exact ⟨_, rfl, h.row (Nat.le_refl _) h.1 (by rw [HLL.out]; exact Nat.le_refl _) (by unfold maxLen; omega) HLL.out.symm, HBq.out⟩
theorem pattern_no (n0 : Int) (n1 : Int) (w : World) (h : (((patOk n0 n1) && (inB 1000000000 (n1)))) = false) : Calls Try.prog 29 #[.int .i64 n0, .int .i64 n1] w (NewRow [] w) := by
  have HB0 := hidH (Below.refl w.heap.size w)
  cases hc0 : patOk n0 n1
  · have HC0 := hidH hc0
    clear h hc0
    have hcc := of_decide_eq_false HC0.out
    rcases (show (n0 < 0) ∨ (0 ≤ n0 ∧ 7 < n0) by omega) with hcf | ⟨ht0_0, hcf⟩
    · clear hcc
      go_enter Try.func29, Try.ntmps29
      go_wp2_with fail
      go_ret
      exact ⟨_, rfl, Row.nil _ _ _ _ _ (Nat.zero_le _) (fun _ => rfl), HB0.out⟩
    · clear hcc
      go_enter Try.func29, Try.ntmps29
      go_wp2_with fail
      go_ret
      exact ⟨_, rfl, Row.nil _ _ _ _ _ (Nat.zero_le _) (fun _ => rfl), HB0.out⟩
  · rw [hc0, Bool.true_and] at h
    have HC0 := hidH hc0
    clear hc0
    have ⟨ht0_0, ht0_1⟩ := of_decide_eq_true HC0.out
    obtain ⟨o, rfl⟩ := Int.eq_ofNat_of_zero_le ht0_0
    · have HC1 := hidH h
      clear h
      go_enter Try.func29, Try.ntmps29
      go_wp2_with fail
      refine (within_any (n1) 1000000000 (by omega) (by omega) _).mono ?_; rintro e w_ ⟨rfl, rfl⟩
      rw [HC1.out]
      go_wp2_with fail
      go_ret
      exact ⟨_, rfl, Row.nil _ _ _ _ _ (Nat.zero_le _) (fun _ => rfl), HB0.out⟩
set_option maxHeartbeats 800000 in
theorem pattern_yes (n0 : Int) (n1 : Int) (w : World) (hc0 : (patOk n0 n1) = true) (hc1 : (inB 1000000000 (n1)) = true) : Calls Try.prog 29 #[.int .i64 n0, .int .i64 n1] w (NewRow (patL n0.toNat n1) w) := by
  have HB0 := hidH (Below.refl w.heap.size w)
  have HC0 := hidH hc0
  have HC1 := hidH hc1
  clear hc0 hc1
  have ⟨ht0_0, ht0_1⟩ := of_decide_eq_true HC0.out
  obtain ⟨o, rfl⟩ := Int.eq_ofNat_of_zero_le ht0_0
  have ⟨hq1, hq2⟩ := of_decide_eq_true HC1.out
  have HTN := hidH (Int.toNat_natCast o)
  go_enter Try.func29, Try.ntmps29
  go_wp2_with fail
  refine (within_any (n1) 1000000000 (by omega) (by omega) _).mono ?_; rintro e w_ ⟨rfl, rfl⟩
  rw [HC1.out]
  have HK := hidH (pat_any o (by omega) n1 (by omega) (by omega) w)
  go_wp2_with fail
  refine HK.out.mono ?_; rintro e w2 ⟨v2, rfl, hr, hb⟩
  have HR := hidH hr
  have HB2 := hidH hb
  clear hr hb
  go_wp2_with fail
  go_ret
  rw [HTN.out]
  exact ⟨_, rfl, HR.out, HB2.out⟩
theorem pattern_any (n0 : Int) (n1 : Int) (w : World) : Calls Try.prog 29 #[.int .i64 n0, .int .i64 n1] w (NewRow (patA n0 n1) w) := by
  unfold patA
  cases h : (patOk n0 n1 && inB 1000000000 n1)
  · exact pattern_no n0 n1 w   h
  · have h' := h
    simp only [Bool.and_eq_true] at h'
    obtain ⟨h0, h1⟩ := h'
    exact pattern_yes n0 n1 w   h0 h1
theorem sAmt4_any (a : Int) (w : World) : Calls Try.prog 59 #[.int .i64 a] w fun e w' => e = .returned (.bool (inB 1000000000 a)) ∧ w = w' := by
  go_enter Try.func59, Try.ntmps59
  go_wp2_with (go_at_call 58; refine (sIn_any _ _ _ (inB 1000000000 a) rfl _).mono ?_; rintro e w' ⟨rfl, rfl⟩)
  go_ret
  exact ⟨rfl, rfl⟩
theorem sPattern_no (n0 : Int) (n1 : Int) (w : World) (h : (((patOk n0 n1) && (inB 1000000000 (n1)))) = false) : Calls Try.prog 31 #[.int .i64 n0, .int .i64 n1] w (NewRow [] w) := by
  have HB0 := hidH (Below.refl w.heap.size w)
  cases hc0 : patOk n0 n1
  · have HC0 := hidH hc0
    clear h hc0
    go_enter Try.func31, Try.ntmps31
    go_wp2_with fail
    refine (sIn_any (n0) (0) (7) (patOk n0 n1) rfl _).mono ?_; rintro e w_ ⟨rfl, rfl⟩
    rw [HC0.out]
    go_wp2_with fail
    go_ret
    exact ⟨_, rfl, Row.nil _ _ _ _ _ (Nat.zero_le _) (fun _ => rfl), HB0.out.trans (((Below.refl _ _).alloc (Nat.le_refl _) _).mono HB0.out.size)⟩
  · rw [hc0, Bool.true_and] at h
    have HC0 := hidH hc0
    clear hc0
    have ⟨ht0_0, ht0_1⟩ := of_decide_eq_true HC0.out
    · have HC1 := hidH h
      clear h
      go_enter Try.func31, Try.ntmps31
      go_wp2_with fail
      refine (sIn_any (n0) (0) (7) (patOk n0 n1) rfl _).mono ?_; rintro e w_ ⟨rfl, rfl⟩
      rw [HC0.out]
      go_wp2_with fail
      refine (sAmt4_any (n1) _).mono ?_; rintro e w_ ⟨rfl, rfl⟩
      rw [HC1.out]
      go_wp2_with fail
      go_ret
      exact ⟨_, rfl, Row.nil _ _ _ _ _ (Nat.zero_le _) (fun _ => rfl), HB0.out.trans (((Below.refl _ _).alloc (Nat.le_refl _) _).mono HB0.out.size)⟩
set_option maxHeartbeats 800000 in
theorem sPattern_yes (n0 : Int) (n1 : Int) (w : World) (hc0 : (patOk n0 n1) = true) (hc1 : (inB 1000000000 (n1)) = true) : Calls Try.prog 31 #[.int .i64 n0, .int .i64 n1] w (NewRow (patL n0.toNat n1) w) := by
  have HB0 := hidH (Below.refl w.heap.size w)
  have HC0 := hidH hc0
  have HC1 := hidH hc1
  clear hc0 hc1
  have ⟨ht0_0, ht0_1⟩ := of_decide_eq_true HC0.out
  obtain ⟨q, rfl⟩ := Int.eq_ofNat_of_zero_le ht0_0
  have ⟨hq1, hq2⟩ := of_decide_eq_true HC1.out
  have HTN := hidH (Int.toNat_natCast q)
  go_enter Try.func31, Try.ntmps31
  go_wp2_with fail
  refine (sIn_any (q : Int) 0 7 (patOk (q : Int) n1) rfl _).mono ?_; rintro e w_ ⟨rfl, rfl⟩
  rw [HC0.out]
  go_wp2_with fail
  refine (sAmt4_any (n1) _).mono ?_; rintro e w_ ⟨rfl, rfl⟩
  rw [HC1.out]
  obtain ⟨i0, hi0, hz0, hz1, hz2⟩ := info_parts infoInt
  have HO := hidH (World.ownsRow_made (base := (w).heap.size) (e := 3) (size := 1) w #[] 0 (Nat.le_refl _) (Nat.zero_le _) rfl)
  have HLL := hidH (patL_length q n1)
  go_wp2_with fail
  go_loopw [5, 6] (fun o i wr => ∃ (k : Nat) (ov : Value), k ≤ (q + 1) ∧ i = .int .i64 k ∧ ov = o ∧ wr.ownsRow (w).heap.size 3 1 ov k (ints ((patL q n1).take k)) ∧ Below (w).heap.size w wr) (fun _ i _ => (q + 1) - (intOf i).toNat)
  case atStart => exact ⟨0, _, Nat.zero_le _, rfl, rfl, HO.out, (Below.refl _ _).alloc (Nat.le_refl _) _⟩
  case round =>
    obtain ⟨k, ov, hk, rfl, rfl, hown, hb⟩ := hrel
    have HW := hidH hown
    have HBq := hidH hb
    clear hown hb
    have hszq := HBq.out.size
    by_cases hlt : k < (q + 1)
    · have HX := hidH (ints_snoc _ k _ (patL_get q n1 k (by omega)))
      have ⟨b1, b2⟩ := chN_small q (by omega) k (by omega)
      have hbd := pat_bd q (by omega) k (by omega) n1 1000000000 (by omega)
      have ⟨hg1, hg2⟩ : -35 ≤ sg k * chN (q : Nat) k ∧ sg k * chN (q : Nat) k ≤ 35 := by rcases sg_abs k with e | e <;> rw [e] <;> omega
      have ⟨hp1, hp2⟩ : -35000000000 ≤ sg k * chN (q : Nat) k * n1 ∧ sg k * chN (q : Nat) k * n1 ≤ 35000000000 := by omega
      have HCS := hidH (sSign_any k wr (by omega))
      have HCC := hidH (sChoose7_any q (by omega) k (by omega) wr)
      generalize chN (q : Nat) k = c at *
      generalize sg k = sk at *
      clear hbd
      go_wp2_with fail
      refine HCS.out.mono ?_; rintro e w5 ⟨rfl, rfl⟩
      go_wp2_with fail
      refine HCC.out.mono ?_; rintro e w6 ⟨rfl, rfl⟩
      go_wp2_with (at_builtin; refine wpList_append_own _ rfl _ _ 23 rfl (w).heap.size 3 i0 (.int .i64 0) 1 8 Try.underlying23 hi0 hz0 hz1 hz2 rfl (by decide) _ _ _ rfl (owns_below HW.out ((Below.refl _ _).alloc (Nat.le_refl _) _)) ⟨wr.heap.size, 0, none⟩ 1 1 [.int .i64 (sk * c * n1)] rfl rfl (news_one wr _ _) (one_one _) (by unfold maxLen; omega) (by omega) (by simp; omega) ?_)
      intro v' w1 hown1 hgrow _
      have HR := hidH hown1
      have HG := hidH hgrow
      clear hown1 hgrow
      go_wp2_with fail
      go_roundw
      case rel =>
        refine ⟨k + 1, v', by omega, by go_num, rfl, ?_, ?_⟩
        · have h := HR.out
          rw [HX.out] at h
          exact h
        · exact (HBq.out.alloc hszq _).grown HG.out (by simp; omega) fun g hg => (HW.out.lt g hg).1
      case measure => simp [intOf]; omega
    · obtain rfl : k = (q + 1) := by omega
      have h := HW.out
      rw [List.take_of_length_le (by rw [HLL.out]; exact Nat.le_refl _)] at h
      have HRW := hidH (row_of_owns h).1
      clear h
      go_wp2_with fail
      go_ret
      rw [HTN.out]
      exact ⟨_, rfl, HRW.out, HBq.out⟩
theorem sPattern_any (n0 : Int) (n1 : Int) (w : World) : Calls Try.prog 31 #[.int .i64 n0, .int .i64 n1] w (NewRow (patA n0 n1) w) := by
  unfold patA
  cases h : (patOk n0 n1 && inB 1000000000 n1)
  · exact sPattern_no n0 n1 w   h
  · have h' := h
    simp only [Bool.and_eq_true] at h'
    obtain ⟨h0, h1⟩ := h'
    exact sPattern_yes n0 n1 w   h0 h1
end Go.Proofs.Ytlicihjjbojpcaa
