/-
  The walks of the laws of Vote and FaultyOne. No conditions but that slices fit in memory.
-/
import Derived.Test.YthinpmhoklehaaaHouLd
import Derived.Test.YthinpmhoklehaaaDeFns
namespace Go.Proofs.Ythinpmhoklehaaa
set_option maxRecDepth 4000
open Go.RowKit
set_option maxHeartbeats 800000 in
theorem deInts7 (v0 : Value) (zs0 : List Int) (v1 : Value) (zs1 : List Int) (w : World) (lo0 hi0 lo1 hi1 : Nat) (hv0 : Lies w lo0 hi0 v0 zs0) (hv1 : Lies w lo1 hi1 v1 zs1) (hl : zs0.length = zs1.length) (h1 : 1 ≤ zs0.length) : Calls Try.prog 11 #[v0, v1] w (Gives (.bool (decide (zs0 = zs1))) w) := by
  obtain ⟨b0, off0, cap0, rfl, hlc0, hcm0, _, _, _, hcell0⟩ := hv0.addr (by omega)
  obtain ⟨b1, off1, cap1, rfl, hlc1, hcm1, _, _, _, hcell1⟩ := hv1.addr (by omega)
  unfold maxLen at hcm0 hcm1
  have HCA := hidH hcell0
  have HCB := hidH hcell1
  have HL := hidH hl
  rw [← hl]
  clear hv0 hv1 hcell0 hcell1 hlc1 hl
  go_enter Try.func11, Try.ntmps11
  go_wp2_with fail
  go_loopw [5] (fun i wr => ∃ k q : Nat, k ≤ zs0.length ∧ i = .int .i64 k ∧ (∀ (j : Nat), j < k → zs0[j]? = zs1[j]?) ∧ wr = w.drewN q) (fun i _ => zs0.length - (intOf i).toNat)
  case atStart => exact ⟨0, 0, Nat.zero_le _, rfl, fun j h => absurd h (Nat.not_lt_zero _), rfl⟩
  case round =>
    obtain ⟨k, q, hk, rfl, hs, rfl⟩ := hrel
    have HS := hidH hs
    clear hs
    by_cases hlt : k < zs0.length
    · have hlt1 : k < zs1.length := by rw [← HL.out]; exact hlt
      obtain ⟨z, hz⟩ := get_lt zs0 k hlt
      obtain ⟨y, hy⟩ := get_lt zs1 k hlt1
      have hcz := HCA.out k z hz
      have hcy := HCB.out k y hy
      have HZ := hidH hz
      have HY := hidH hy
      clear hz hy hlt1
      by_cases he : z = y
      · subst he
        go_wp2_with fail
        go_quiet (fail)
        go_wp2_with fail
        go_roundw
        case rel =>
          refine ⟨k + 1, _, by omega, by go_num, fun j hj => ?_, by first | rfl | exact drewN_add4 _ _ _⟩
          by_cases e : j = k
          · subst e; rw [HZ.out, HY.out]
          · exact HS.out j (by omega)
        case measure => simp [intOf]; omega
      · have hzy : (z != y) = true := bne_iff_ne.2 he
        have hzy2 : (z == y) = false := beq_eq_false_iff_ne.2 he
        have HE := hidH (show decide (zs0 = zs1) = false from decide_eq_false fun e => he (by have h := HZ.out; rw [e, HY.out] at h; injection h with h; exact h.symm))
        clear he
        go_wp2_with fail
        go_quiet (fail)
        go_wp2_with fail
        go_ret
        rw [HE.out]
        exact ⟨rfl, by first | exact below_drewN (Below.refl _ _) _ | exact below_drewN (below_drewN (Below.refl _ _) _) _⟩
    · obtain rfl : k = zs0.length := by omega
      have HE := hidH (show decide (zs0 = zs1) = true from decide_eq_true (List.ext_getElem? fun i => by
        by_cases hi : i < zs0.length
        · exact HS.out i hi
        · rw [List.getElem?_eq_none (by omega), List.getElem?_eq_none (by rw [← HL.out]; omega)]))
      go_wp2_with fail
      go_ret
      rw [HE.out]
      exact ⟨rfl, below_drewN (Below.refl _ _) _⟩
theorem drawFaultyOne (a : Option Addr) (len cap : Nat) (w : World) (hc : Came w a len cap) (hl : len ≤ 1048576) : Calls Try.prog 23 #[.slice a len cap] w (DrawT3 w) := by
  have HD := hidH (drawVote a len cap w hc hl)
  go_enter Try.func23, Try.ntmps23
  go_wp2_with fail
  refine HD.out.mono ?_; rintro e w1 ⟨v, u, x, zs, ys, xs, rfl, h1, h2, h3, l1, l2, l3, hb⟩
  go_wp2_with fail
  go_ret3
  exact ⟨v, u, x, zs, ys, xs, rfl, h1, h2, h3, l1, l2, l3, hb⟩
set_option maxHeartbeats 3200000 in
theorem lawVote (a : Option Addr) (len cap : Nat) (w : World) (hc : Came w a len cap) : Calls Try.prog 6 #[.slice a len cap] w (Gives (.bool true) w) := by
  have HC := hidH hc
  have hc1 := hc.lenLe
  have hc2 := hc.capLe
  unfold maxLen at hc2
  by_cases hbig : 1048576 < len
  · go_enter Try.func6, Try.ntmps6
    go_wp2
    go_ret
    exact ⟨rfl, Below.refl _ _⟩
  have hsm : len ≤ 1048576 := by omega
  clear hbig hc
  go_enter Try.func6, Try.ntmps6
  have B0 := hidH (Below.refl w.heap.size w)
  go_wp2_with fail
  refine (drawVote a len cap _ HC.out hsm).mono ?_; rintro e w1 ⟨v, u, x, zs, ys, xs, rfl, hz, hy, hx, z61, y61, x61, hb⟩
  have B1 := hidH (bThen B0.out hb)
  have s1 := hb.size
  have LZ_1 := hidH hz
  have LY_1 := hidH hy
  have LX_1 := hidH hx
  clear hb B0  hz hy hx
  obtain ⟨za, zcap, rfl, zc1, zc2, _⟩ := LZ_1.out
  obtain ⟨ya, ycap, rfl, yc1, yc2, _⟩ := LY_1.out
  obtain ⟨xa, xcap, rfl, xc1, xc2, _⟩ := LX_1.out
  unfold maxLen at zc2 yc2 xc2
  have VT := hidH (vote_turn zs ys xs)
  cases ht : threeOk zs ys xs
  · skip
    have HOK := hidH (show voteOk zs ys xs = false by rw [voteOk, ht]; rfl)
    have HN := hidH (show faultA zs ys xs = -3 by rw [faultA, ht]; rfl)
    clear ht
    go_wp2_with fail
    refine (vote_any _ zs _ ys _ xs _ _ _ _ _ _ _ LZ_1.out LY_1.out LX_1.out).mono ?_; rintro e w2 ⟨g, rfl, hr, hb⟩
    rw [HOK.out]
    have B2 := hidH (bThen B1.out hb)
    have s2 := hb.size
    have LZ_2 := hidH (LZ_1.out.below hb)
    have LY_2 := hidH (LY_1.out.below hb)
    have LX_2 := hidH (LX_1.out.below hb)
    have G_2 := hidH hr
    clear hb B1 LZ_1 LY_1 LX_1 hr
    go_wp2_with fail
    refine (sVote_any _ zs _ ys _ xs _ _ _ _ _ _ _ LZ_2.out LY_2.out LX_2.out).mono ?_; rintro e w3 ⟨g2, rfl, hr, hb⟩
    rw [HOK.out]
    have B3 := hidH (bThen B2.out hb)
    have s3 := hb.size
    have LZ_3 := hidH (LZ_2.out.below hb)
    have LY_3 := hidH (LY_2.out.below hb)
    have LX_3 := hidH (LX_2.out.below hb)
    have G_3 := hidH (G_2.out.below hb)
    have U_3 := hidH hr
    clear hb B2 LZ_2 LY_2 LX_2 G_2 hr
    go_wp2_with fail
    refine (deInts_yes _ _ _ _ _ _ _ _ G_3.out.lies U_3.out.lies).mono ?_; rintro e w4 ⟨rfl, hb⟩
    have B4 := hidH (bThen B3.out hb)
    have s4 := hb.size
    have LZ_4 := hidH (LZ_3.out.below hb)
    have LY_4 := hidH (LY_3.out.below hb)
    have LX_4 := hidH (LX_3.out.below hb)
    have G_4 := hidH (G_3.out.below hb)
    have U_4 := hidH (U_3.out.below hb)
    clear hb B3 LZ_3 LY_3 LX_3 G_3 U_3
    clear U_4
    go_wp2_with fail
    refine (vote_any _ xs _ zs _ ys _ _ _ _ _ _ _ LX_4.out LZ_4.out LY_4.out).mono ?_; rintro e w5 ⟨g3, rfl, hr, hb⟩
    rw [VT.out.1.1, HOK.out]
    rw [VT.out.1.2] at hr
    have B5 := hidH (bThen B4.out hb)
    have s5 := hb.size
    have LZ_5 := hidH (LZ_4.out.below hb)
    have LY_5 := hidH (LY_4.out.below hb)
    have LX_5 := hidH (LX_4.out.below hb)
    have G_5 := hidH (G_4.out.below hb)
    have P_5 := hidH hr
    clear hb B4 LZ_4 LY_4 LX_4 G_4 hr
    go_wp2_with fail
    refine (vote_any _ ys _ zs _ xs _ _ _ _ _ _ _ LY_5.out LZ_5.out LX_5.out).mono ?_; rintro e w6 ⟨g4, rfl, hr, hb⟩
    rw [VT.out.2.1, HOK.out]
    rw [VT.out.2.2] at hr
    have B6 := hidH (bThen B5.out hb)
    have s6 := hb.size
    have LZ_6 := hidH (LZ_5.out.below hb)
    have LY_6 := hidH (LY_5.out.below hb)
    have LX_6 := hidH (LX_5.out.below hb)
    have G_6 := hidH (G_5.out.below hb)
    have P_6 := hidH (P_5.out.below hb)
    have Q_6 := hidH hr
    clear hb B5 LZ_5 LY_5 LX_5 G_5 P_5 hr
    go_wp2_with fail
    refine (faulty_any _ zs _ ys _ xs _ _ _ _ _ _ _ LZ_6.out LY_6.out LX_6.out).mono ?_; rintro e w7 ⟨rfl, hb⟩
    rw [HN.out]
    have B7 := hidH (bThen B6.out hb)
    have s7 := hb.size
    have LZ_7 := hidH (LZ_6.out.below hb)
    have LY_7 := hidH (LY_6.out.below hb)
    have LX_7 := hidH (LX_6.out.below hb)
    have G_7 := hidH (G_6.out.below hb)
    have P_7 := hidH (P_6.out.below hb)
    have Q_7 := hidH (Q_6.out.below hb)
    clear hb B6 LZ_6 LY_6 LX_6 G_6 P_6 Q_6
    go_wp2_with fail
    refine (deInts_yes _ _ _ _ _ _ _ _ P_7.out.lies G_7.out.lies).mono ?_; rintro e w8 ⟨rfl, hb⟩
    have B8 := hidH (bThen B7.out hb)
    have s8 := hb.size
    have LZ_8 := hidH (LZ_7.out.below hb)
    have LY_8 := hidH (LY_7.out.below hb)
    have LX_8 := hidH (LX_7.out.below hb)
    have G_8 := hidH (G_7.out.below hb)
    have P_8 := hidH (P_7.out.below hb)
    have Q_8 := hidH (Q_7.out.below hb)
    clear hb B7 LZ_7 LY_7 LX_7 G_7 P_7 Q_7
    go_wp2_with fail
    refine (deInts_yes _ _ _ _ _ _ _ _ Q_8.out.lies G_8.out.lies).mono ?_; rintro e w9 ⟨rfl, hb⟩
    have B9 := hidH (bThen B8.out hb)
    have s9 := hb.size
    have LZ_9 := hidH (LZ_8.out.below hb)
    have LY_9 := hidH (LY_8.out.below hb)
    have LX_9 := hidH (LX_8.out.below hb)
    have G_9 := hidH (G_8.out.below hb)
    have P_9 := hidH (P_8.out.below hb)
    have Q_9 := hidH (Q_8.out.below hb)
    clear hb B8 LZ_8 LY_8 LX_8 G_8 P_8 Q_8
    go_wp2_with fail
    go_ret
    exact ⟨rfl, B9.out⟩
  have hfa : faultA zs ys xs = faultV zs ys xs := if_pos ht
  rcases fault_cases zs ys xs with ⟨h1, h2, h3, hv⟩ | ⟨h1, h2, h3, hv⟩ | ⟨h1, h2, h3, hv⟩ | ⟨h1, h2, h3, hv⟩ | ⟨h1, h2, h3, hv⟩
  · skip
    have hn := hfa.trans hv
    have hvv := (show voteOk zs ys xs = true ∧ voteA zs ys xs = zs from by have t := ht; rw [← h1] at t ⊢; exact vote_ab zs xs t)
    have HOK := hidH hvv.1
    have HVA := hidH hvv.2
    have HN := hidH hn
    clear h1 h2 h3 hv hn hvv hfa ht
    go_wp2_with fail
    refine (vote_any _ zs _ ys _ xs _ _ _ _ _ _ _ LZ_1.out LY_1.out LX_1.out).mono ?_; rintro e w2 ⟨g, rfl, hr, hb⟩
    rw [HOK.out]
    rw [HVA.out] at hr
    have B2 := hidH (bThen B1.out hb)
    have s2 := hb.size
    have LZ_2 := hidH (LZ_1.out.below hb)
    have LY_2 := hidH (LY_1.out.below hb)
    have LX_2 := hidH (LX_1.out.below hb)
    have G_2 := hidH hr
    clear hb B1 LZ_1 LY_1 LX_1 hr
    go_wp2_with fail
    refine (sVote_any _ zs _ ys _ xs _ _ _ _ _ _ _ LZ_2.out LY_2.out LX_2.out).mono ?_; rintro e w3 ⟨g2, rfl, hr, hb⟩
    rw [HOK.out]
    rw [HVA.out] at hr
    have B3 := hidH (bThen B2.out hb)
    have s3 := hb.size
    have LZ_3 := hidH (LZ_2.out.below hb)
    have LY_3 := hidH (LY_2.out.below hb)
    have LX_3 := hidH (LX_2.out.below hb)
    have G_3 := hidH (G_2.out.below hb)
    have U_3 := hidH hr
    clear hb B2 LZ_2 LY_2 LX_2 G_2 hr
    go_wp2_with fail
    refine (deInts_yes _ _ _ _ _ _ _ _ G_3.out.lies U_3.out.lies).mono ?_; rintro e w4 ⟨rfl, hb⟩
    have B4 := hidH (bThen B3.out hb)
    have s4 := hb.size
    have LZ_4 := hidH (LZ_3.out.below hb)
    have LY_4 := hidH (LY_3.out.below hb)
    have LX_4 := hidH (LX_3.out.below hb)
    have G_4 := hidH (G_3.out.below hb)
    have U_4 := hidH (U_3.out.below hb)
    clear hb B3 LZ_3 LY_3 LX_3 G_3 U_3
    clear U_4
    go_wp2_with fail
    refine (vote_any _ xs _ zs _ ys _ _ _ _ _ _ _ LX_4.out LZ_4.out LY_4.out).mono ?_; rintro e w5 ⟨g3, rfl, hr, hb⟩
    rw [VT.out.1.1, HOK.out]
    rw [VT.out.1.2] at hr
    rw [HVA.out] at hr
    have B5 := hidH (bThen B4.out hb)
    have s5 := hb.size
    have LZ_5 := hidH (LZ_4.out.below hb)
    have LY_5 := hidH (LY_4.out.below hb)
    have LX_5 := hidH (LX_4.out.below hb)
    have G_5 := hidH (G_4.out.below hb)
    have P_5 := hidH hr
    clear hb B4 LZ_4 LY_4 LX_4 G_4 hr
    go_wp2_with fail
    refine (vote_any _ ys _ zs _ xs _ _ _ _ _ _ _ LY_5.out LZ_5.out LX_5.out).mono ?_; rintro e w6 ⟨g4, rfl, hr, hb⟩
    rw [VT.out.2.1, HOK.out]
    rw [VT.out.2.2] at hr
    rw [HVA.out] at hr
    have B6 := hidH (bThen B5.out hb)
    have s6 := hb.size
    have LZ_6 := hidH (LZ_5.out.below hb)
    have LY_6 := hidH (LY_5.out.below hb)
    have LX_6 := hidH (LX_5.out.below hb)
    have G_6 := hidH (G_5.out.below hb)
    have P_6 := hidH (P_5.out.below hb)
    have Q_6 := hidH hr
    clear hb B5 LZ_5 LY_5 LX_5 G_5 P_5 hr
    go_wp2_with fail
    refine (faulty_any _ zs _ ys _ xs _ _ _ _ _ _ _ LZ_6.out LY_6.out LX_6.out).mono ?_; rintro e w7 ⟨rfl, hb⟩
    rw [HN.out]
    have B7 := hidH (bThen B6.out hb)
    have s7 := hb.size
    have LZ_7 := hidH (LZ_6.out.below hb)
    have LY_7 := hidH (LY_6.out.below hb)
    have LX_7 := hidH (LX_6.out.below hb)
    have G_7 := hidH (G_6.out.below hb)
    have P_7 := hidH (P_6.out.below hb)
    have Q_7 := hidH (Q_6.out.below hb)
    clear hb B6 LZ_6 LY_6 LX_6 G_6 P_6 Q_6
    go_wp2_with fail
    refine (deInts_yes _ _ _ _ _ _ _ _ P_7.out.lies G_7.out.lies).mono ?_; rintro e w8 ⟨rfl, hb⟩
    have B8 := hidH (bThen B7.out hb)
    have s8 := hb.size
    have LZ_8 := hidH (LZ_7.out.below hb)
    have LY_8 := hidH (LY_7.out.below hb)
    have LX_8 := hidH (LX_7.out.below hb)
    have G_8 := hidH (G_7.out.below hb)
    have P_8 := hidH (P_7.out.below hb)
    have Q_8 := hidH (Q_7.out.below hb)
    clear hb B7 LZ_7 LY_7 LX_7 G_7 P_7 Q_7
    go_wp2_with fail
    refine (deInts_yes _ _ _ _ _ _ _ _ Q_8.out.lies G_8.out.lies).mono ?_; rintro e w9 ⟨rfl, hb⟩
    have B9 := hidH (bThen B8.out hb)
    have s9 := hb.size
    have LZ_9 := hidH (LZ_8.out.below hb)
    have LY_9 := hidH (LY_8.out.below hb)
    have LX_9 := hidH (LX_8.out.below hb)
    have G_9 := hidH (G_8.out.below hb)
    have P_9 := hidH (P_8.out.below hb)
    have Q_9 := hidH (Q_8.out.below hb)
    clear hb B8 LZ_8 LY_8 LX_8 G_8 P_8 Q_8
    go_wp2_with fail
    refine (deInts_yes _ _ _ _ _ _ _ _ G_9.out.lies LZ_9.out).mono ?_; rintro e w10 ⟨rfl, hb⟩
    have B10 := hidH (bThen B9.out hb)
    have s10 := hb.size
    have LZ_10 := hidH (LZ_9.out.below hb)
    have LY_10 := hidH (LY_9.out.below hb)
    have LX_10 := hidH (LX_9.out.below hb)
    have G_10 := hidH (G_9.out.below hb)
    have P_10 := hidH (P_9.out.below hb)
    have Q_10 := hidH (Q_9.out.below hb)
    clear hb B9 LZ_9 LY_9 LX_9 G_9 P_9 Q_9
    go_wp2_with fail
    go_ret
    exact ⟨rfl, B10.out⟩
  · skip
    have hn := hfa.trans hv
    have hvv := (show voteOk zs ys xs = true ∧ voteA zs ys xs = ys from by have t := ht; rw [← h3] at t ⊢; exact vote_bc zs ys t)
    have HOK := hidH hvv.1
    have HVA := hidH hvv.2
    have HN := hidH hn
    clear h1 h2 h3 hv hn hvv hfa ht
    go_wp2_with fail
    refine (vote_any _ zs _ ys _ xs _ _ _ _ _ _ _ LZ_1.out LY_1.out LX_1.out).mono ?_; rintro e w2 ⟨g, rfl, hr, hb⟩
    rw [HOK.out]
    rw [HVA.out] at hr
    have B2 := hidH (bThen B1.out hb)
    have s2 := hb.size
    have LZ_2 := hidH (LZ_1.out.below hb)
    have LY_2 := hidH (LY_1.out.below hb)
    have LX_2 := hidH (LX_1.out.below hb)
    have G_2 := hidH hr
    clear hb B1 LZ_1 LY_1 LX_1 hr
    go_wp2_with fail
    refine (sVote_any _ zs _ ys _ xs _ _ _ _ _ _ _ LZ_2.out LY_2.out LX_2.out).mono ?_; rintro e w3 ⟨g2, rfl, hr, hb⟩
    rw [HOK.out]
    rw [HVA.out] at hr
    have B3 := hidH (bThen B2.out hb)
    have s3 := hb.size
    have LZ_3 := hidH (LZ_2.out.below hb)
    have LY_3 := hidH (LY_2.out.below hb)
    have LX_3 := hidH (LX_2.out.below hb)
    have G_3 := hidH (G_2.out.below hb)
    have U_3 := hidH hr
    clear hb B2 LZ_2 LY_2 LX_2 G_2 hr
    go_wp2_with fail
    refine (deInts_yes _ _ _ _ _ _ _ _ G_3.out.lies U_3.out.lies).mono ?_; rintro e w4 ⟨rfl, hb⟩
    have B4 := hidH (bThen B3.out hb)
    have s4 := hb.size
    have LZ_4 := hidH (LZ_3.out.below hb)
    have LY_4 := hidH (LY_3.out.below hb)
    have LX_4 := hidH (LX_3.out.below hb)
    have G_4 := hidH (G_3.out.below hb)
    have U_4 := hidH (U_3.out.below hb)
    clear hb B3 LZ_3 LY_3 LX_3 G_3 U_3
    clear U_4
    go_wp2_with fail
    refine (vote_any _ xs _ zs _ ys _ _ _ _ _ _ _ LX_4.out LZ_4.out LY_4.out).mono ?_; rintro e w5 ⟨g3, rfl, hr, hb⟩
    rw [VT.out.1.1, HOK.out]
    rw [VT.out.1.2] at hr
    rw [HVA.out] at hr
    have B5 := hidH (bThen B4.out hb)
    have s5 := hb.size
    have LZ_5 := hidH (LZ_4.out.below hb)
    have LY_5 := hidH (LY_4.out.below hb)
    have LX_5 := hidH (LX_4.out.below hb)
    have G_5 := hidH (G_4.out.below hb)
    have P_5 := hidH hr
    clear hb B4 LZ_4 LY_4 LX_4 G_4 hr
    go_wp2_with fail
    refine (vote_any _ ys _ zs _ xs _ _ _ _ _ _ _ LY_5.out LZ_5.out LX_5.out).mono ?_; rintro e w6 ⟨g4, rfl, hr, hb⟩
    rw [VT.out.2.1, HOK.out]
    rw [VT.out.2.2] at hr
    rw [HVA.out] at hr
    have B6 := hidH (bThen B5.out hb)
    have s6 := hb.size
    have LZ_6 := hidH (LZ_5.out.below hb)
    have LY_6 := hidH (LY_5.out.below hb)
    have LX_6 := hidH (LX_5.out.below hb)
    have G_6 := hidH (G_5.out.below hb)
    have P_6 := hidH (P_5.out.below hb)
    have Q_6 := hidH hr
    clear hb B5 LZ_5 LY_5 LX_5 G_5 P_5 hr
    go_wp2_with fail
    refine (faulty_any _ zs _ ys _ xs _ _ _ _ _ _ _ LZ_6.out LY_6.out LX_6.out).mono ?_; rintro e w7 ⟨rfl, hb⟩
    rw [HN.out]
    have B7 := hidH (bThen B6.out hb)
    have s7 := hb.size
    have LZ_7 := hidH (LZ_6.out.below hb)
    have LY_7 := hidH (LY_6.out.below hb)
    have LX_7 := hidH (LX_6.out.below hb)
    have G_7 := hidH (G_6.out.below hb)
    have P_7 := hidH (P_6.out.below hb)
    have Q_7 := hidH (Q_6.out.below hb)
    clear hb B6 LZ_6 LY_6 LX_6 G_6 P_6 Q_6
    go_wp2_with fail
    refine (deInts_yes _ _ _ _ _ _ _ _ P_7.out.lies G_7.out.lies).mono ?_; rintro e w8 ⟨rfl, hb⟩
    have B8 := hidH (bThen B7.out hb)
    have s8 := hb.size
    have LZ_8 := hidH (LZ_7.out.below hb)
    have LY_8 := hidH (LY_7.out.below hb)
    have LX_8 := hidH (LX_7.out.below hb)
    have G_8 := hidH (G_7.out.below hb)
    have P_8 := hidH (P_7.out.below hb)
    have Q_8 := hidH (Q_7.out.below hb)
    clear hb B7 LZ_7 LY_7 LX_7 G_7 P_7 Q_7
    go_wp2_with fail
    refine (deInts_yes _ _ _ _ _ _ _ _ Q_8.out.lies G_8.out.lies).mono ?_; rintro e w9 ⟨rfl, hb⟩
    have B9 := hidH (bThen B8.out hb)
    have s9 := hb.size
    have LZ_9 := hidH (LZ_8.out.below hb)
    have LY_9 := hidH (LY_8.out.below hb)
    have LX_9 := hidH (LX_8.out.below hb)
    have G_9 := hidH (G_8.out.below hb)
    have P_9 := hidH (P_8.out.below hb)
    have Q_9 := hidH (Q_8.out.below hb)
    clear hb B8 LZ_8 LY_8 LX_8 G_8 P_8 Q_8
    go_wp2_with fail
    refine (deInts_yes _ _ _ _ _ _ _ _ G_9.out.lies LY_9.out).mono ?_; rintro e w10 ⟨rfl, hb⟩
    have B10 := hidH (bThen B9.out hb)
    have s10 := hb.size
    have LZ_10 := hidH (LZ_9.out.below hb)
    have LY_10 := hidH (LY_9.out.below hb)
    have LX_10 := hidH (LX_9.out.below hb)
    have G_10 := hidH (G_9.out.below hb)
    have P_10 := hidH (P_9.out.below hb)
    have Q_10 := hidH (Q_9.out.below hb)
    clear hb B9 LZ_9 LY_9 LX_9 G_9 P_9 Q_9
    go_wp2_with fail
    go_ret
    exact ⟨rfl, B10.out⟩
  · skip
    have hn := hfa.trans hv
    have hvv := (show voteOk zs ys xs = true ∧ voteA zs ys xs = zs from by have t := ht; rw [← h2] at t ⊢; exact vote_ac zs ys t)
    have HOK := hidH hvv.1
    have HVA := hidH hvv.2
    have HN := hidH hn
    clear h1 h2 h3 hv hn hvv hfa ht
    go_wp2_with fail
    refine (vote_any _ zs _ ys _ xs _ _ _ _ _ _ _ LZ_1.out LY_1.out LX_1.out).mono ?_; rintro e w2 ⟨g, rfl, hr, hb⟩
    rw [HOK.out]
    rw [HVA.out] at hr
    have B2 := hidH (bThen B1.out hb)
    have s2 := hb.size
    have LZ_2 := hidH (LZ_1.out.below hb)
    have LY_2 := hidH (LY_1.out.below hb)
    have LX_2 := hidH (LX_1.out.below hb)
    have G_2 := hidH hr
    clear hb B1 LZ_1 LY_1 LX_1 hr
    go_wp2_with fail
    refine (sVote_any _ zs _ ys _ xs _ _ _ _ _ _ _ LZ_2.out LY_2.out LX_2.out).mono ?_; rintro e w3 ⟨g2, rfl, hr, hb⟩
    rw [HOK.out]
    rw [HVA.out] at hr
    have B3 := hidH (bThen B2.out hb)
    have s3 := hb.size
    have LZ_3 := hidH (LZ_2.out.below hb)
    have LY_3 := hidH (LY_2.out.below hb)
    have LX_3 := hidH (LX_2.out.below hb)
    have G_3 := hidH (G_2.out.below hb)
    have U_3 := hidH hr
    clear hb B2 LZ_2 LY_2 LX_2 G_2 hr
    go_wp2_with fail
    refine (deInts_yes _ _ _ _ _ _ _ _ G_3.out.lies U_3.out.lies).mono ?_; rintro e w4 ⟨rfl, hb⟩
    have B4 := hidH (bThen B3.out hb)
    have s4 := hb.size
    have LZ_4 := hidH (LZ_3.out.below hb)
    have LY_4 := hidH (LY_3.out.below hb)
    have LX_4 := hidH (LX_3.out.below hb)
    have G_4 := hidH (G_3.out.below hb)
    have U_4 := hidH (U_3.out.below hb)
    clear hb B3 LZ_3 LY_3 LX_3 G_3 U_3
    clear U_4
    go_wp2_with fail
    refine (vote_any _ xs _ zs _ ys _ _ _ _ _ _ _ LX_4.out LZ_4.out LY_4.out).mono ?_; rintro e w5 ⟨g3, rfl, hr, hb⟩
    rw [VT.out.1.1, HOK.out]
    rw [VT.out.1.2] at hr
    rw [HVA.out] at hr
    have B5 := hidH (bThen B4.out hb)
    have s5 := hb.size
    have LZ_5 := hidH (LZ_4.out.below hb)
    have LY_5 := hidH (LY_4.out.below hb)
    have LX_5 := hidH (LX_4.out.below hb)
    have G_5 := hidH (G_4.out.below hb)
    have P_5 := hidH hr
    clear hb B4 LZ_4 LY_4 LX_4 G_4 hr
    go_wp2_with fail
    refine (vote_any _ ys _ zs _ xs _ _ _ _ _ _ _ LY_5.out LZ_5.out LX_5.out).mono ?_; rintro e w6 ⟨g4, rfl, hr, hb⟩
    rw [VT.out.2.1, HOK.out]
    rw [VT.out.2.2] at hr
    rw [HVA.out] at hr
    have B6 := hidH (bThen B5.out hb)
    have s6 := hb.size
    have LZ_6 := hidH (LZ_5.out.below hb)
    have LY_6 := hidH (LY_5.out.below hb)
    have LX_6 := hidH (LX_5.out.below hb)
    have G_6 := hidH (G_5.out.below hb)
    have P_6 := hidH (P_5.out.below hb)
    have Q_6 := hidH hr
    clear hb B5 LZ_5 LY_5 LX_5 G_5 P_5 hr
    go_wp2_with fail
    refine (faulty_any _ zs _ ys _ xs _ _ _ _ _ _ _ LZ_6.out LY_6.out LX_6.out).mono ?_; rintro e w7 ⟨rfl, hb⟩
    rw [HN.out]
    have B7 := hidH (bThen B6.out hb)
    have s7 := hb.size
    have LZ_7 := hidH (LZ_6.out.below hb)
    have LY_7 := hidH (LY_6.out.below hb)
    have LX_7 := hidH (LX_6.out.below hb)
    have G_7 := hidH (G_6.out.below hb)
    have P_7 := hidH (P_6.out.below hb)
    have Q_7 := hidH (Q_6.out.below hb)
    clear hb B6 LZ_6 LY_6 LX_6 G_6 P_6 Q_6
    go_wp2_with fail
    refine (deInts_yes _ _ _ _ _ _ _ _ P_7.out.lies G_7.out.lies).mono ?_; rintro e w8 ⟨rfl, hb⟩
    have B8 := hidH (bThen B7.out hb)
    have s8 := hb.size
    have LZ_8 := hidH (LZ_7.out.below hb)
    have LY_8 := hidH (LY_7.out.below hb)
    have LX_8 := hidH (LX_7.out.below hb)
    have G_8 := hidH (G_7.out.below hb)
    have P_8 := hidH (P_7.out.below hb)
    have Q_8 := hidH (Q_7.out.below hb)
    clear hb B7 LZ_7 LY_7 LX_7 G_7 P_7 Q_7
    go_wp2_with fail
    refine (deInts_yes _ _ _ _ _ _ _ _ Q_8.out.lies G_8.out.lies).mono ?_; rintro e w9 ⟨rfl, hb⟩
    have B9 := hidH (bThen B8.out hb)
    have s9 := hb.size
    have LZ_9 := hidH (LZ_8.out.below hb)
    have LY_9 := hidH (LY_8.out.below hb)
    have LX_9 := hidH (LX_8.out.below hb)
    have G_9 := hidH (G_8.out.below hb)
    have P_9 := hidH (P_8.out.below hb)
    have Q_9 := hidH (Q_8.out.below hb)
    clear hb B8 LZ_8 LY_8 LX_8 G_8 P_8 Q_8
    go_wp2_with fail
    refine (deInts_yes _ _ _ _ _ _ _ _ G_9.out.lies LZ_9.out).mono ?_; rintro e w10 ⟨rfl, hb⟩
    have B10 := hidH (bThen B9.out hb)
    have s10 := hb.size
    have LZ_10 := hidH (LZ_9.out.below hb)
    have LY_10 := hidH (LY_9.out.below hb)
    have LX_10 := hidH (LX_9.out.below hb)
    have G_10 := hidH (G_9.out.below hb)
    have P_10 := hidH (P_9.out.below hb)
    have Q_10 := hidH (Q_9.out.below hb)
    clear hb B9 LZ_9 LY_9 LX_9 G_9 P_9 Q_9
    go_wp2_with fail
    go_ret
    exact ⟨rfl, B10.out⟩
  · skip
    have hn := hfa.trans hv
    have hvv := (show voteOk zs ys xs = true ∧ voteA zs ys xs = zs from by have t := ht; rw [← h1] at t ⊢; exact vote_ab zs xs t)
    have HOK := hidH hvv.1
    have HVA := hidH hvv.2
    have HN := hidH hn
    clear h1 h2 h3 hv hn hvv hfa ht
    go_wp2_with fail
    refine (vote_any _ zs _ ys _ xs _ _ _ _ _ _ _ LZ_1.out LY_1.out LX_1.out).mono ?_; rintro e w2 ⟨g, rfl, hr, hb⟩
    rw [HOK.out]
    rw [HVA.out] at hr
    have B2 := hidH (bThen B1.out hb)
    have s2 := hb.size
    have LZ_2 := hidH (LZ_1.out.below hb)
    have LY_2 := hidH (LY_1.out.below hb)
    have LX_2 := hidH (LX_1.out.below hb)
    have G_2 := hidH hr
    clear hb B1 LZ_1 LY_1 LX_1 hr
    go_wp2_with fail
    refine (sVote_any _ zs _ ys _ xs _ _ _ _ _ _ _ LZ_2.out LY_2.out LX_2.out).mono ?_; rintro e w3 ⟨g2, rfl, hr, hb⟩
    rw [HOK.out]
    rw [HVA.out] at hr
    have B3 := hidH (bThen B2.out hb)
    have s3 := hb.size
    have LZ_3 := hidH (LZ_2.out.below hb)
    have LY_3 := hidH (LY_2.out.below hb)
    have LX_3 := hidH (LX_2.out.below hb)
    have G_3 := hidH (G_2.out.below hb)
    have U_3 := hidH hr
    clear hb B2 LZ_2 LY_2 LX_2 G_2 hr
    go_wp2_with fail
    refine (deInts_yes _ _ _ _ _ _ _ _ G_3.out.lies U_3.out.lies).mono ?_; rintro e w4 ⟨rfl, hb⟩
    have B4 := hidH (bThen B3.out hb)
    have s4 := hb.size
    have LZ_4 := hidH (LZ_3.out.below hb)
    have LY_4 := hidH (LY_3.out.below hb)
    have LX_4 := hidH (LX_3.out.below hb)
    have G_4 := hidH (G_3.out.below hb)
    have U_4 := hidH (U_3.out.below hb)
    clear hb B3 LZ_3 LY_3 LX_3 G_3 U_3
    clear U_4
    go_wp2_with fail
    refine (vote_any _ xs _ zs _ ys _ _ _ _ _ _ _ LX_4.out LZ_4.out LY_4.out).mono ?_; rintro e w5 ⟨g3, rfl, hr, hb⟩
    rw [VT.out.1.1, HOK.out]
    rw [VT.out.1.2] at hr
    rw [HVA.out] at hr
    have B5 := hidH (bThen B4.out hb)
    have s5 := hb.size
    have LZ_5 := hidH (LZ_4.out.below hb)
    have LY_5 := hidH (LY_4.out.below hb)
    have LX_5 := hidH (LX_4.out.below hb)
    have G_5 := hidH (G_4.out.below hb)
    have P_5 := hidH hr
    clear hb B4 LZ_4 LY_4 LX_4 G_4 hr
    go_wp2_with fail
    refine (vote_any _ ys _ zs _ xs _ _ _ _ _ _ _ LY_5.out LZ_5.out LX_5.out).mono ?_; rintro e w6 ⟨g4, rfl, hr, hb⟩
    rw [VT.out.2.1, HOK.out]
    rw [VT.out.2.2] at hr
    rw [HVA.out] at hr
    have B6 := hidH (bThen B5.out hb)
    have s6 := hb.size
    have LZ_6 := hidH (LZ_5.out.below hb)
    have LY_6 := hidH (LY_5.out.below hb)
    have LX_6 := hidH (LX_5.out.below hb)
    have G_6 := hidH (G_5.out.below hb)
    have P_6 := hidH (P_5.out.below hb)
    have Q_6 := hidH hr
    clear hb B5 LZ_5 LY_5 LX_5 G_5 P_5 hr
    go_wp2_with fail
    refine (faulty_any _ zs _ ys _ xs _ _ _ _ _ _ _ LZ_6.out LY_6.out LX_6.out).mono ?_; rintro e w7 ⟨rfl, hb⟩
    rw [HN.out]
    have B7 := hidH (bThen B6.out hb)
    have s7 := hb.size
    have LZ_7 := hidH (LZ_6.out.below hb)
    have LY_7 := hidH (LY_6.out.below hb)
    have LX_7 := hidH (LX_6.out.below hb)
    have G_7 := hidH (G_6.out.below hb)
    have P_7 := hidH (P_6.out.below hb)
    have Q_7 := hidH (Q_6.out.below hb)
    clear hb B6 LZ_6 LY_6 LX_6 G_6 P_6 Q_6
    go_wp2_with fail
    refine (deInts_yes _ _ _ _ _ _ _ _ P_7.out.lies G_7.out.lies).mono ?_; rintro e w8 ⟨rfl, hb⟩
    have B8 := hidH (bThen B7.out hb)
    have s8 := hb.size
    have LZ_8 := hidH (LZ_7.out.below hb)
    have LY_8 := hidH (LY_7.out.below hb)
    have LX_8 := hidH (LX_7.out.below hb)
    have G_8 := hidH (G_7.out.below hb)
    have P_8 := hidH (P_7.out.below hb)
    have Q_8 := hidH (Q_7.out.below hb)
    clear hb B7 LZ_7 LY_7 LX_7 G_7 P_7 Q_7
    go_wp2_with fail
    refine (deInts_yes _ _ _ _ _ _ _ _ Q_8.out.lies G_8.out.lies).mono ?_; rintro e w9 ⟨rfl, hb⟩
    have B9 := hidH (bThen B8.out hb)
    have s9 := hb.size
    have LZ_9 := hidH (LZ_8.out.below hb)
    have LY_9 := hidH (LY_8.out.below hb)
    have LX_9 := hidH (LX_8.out.below hb)
    have G_9 := hidH (G_8.out.below hb)
    have P_9 := hidH (P_8.out.below hb)
    have Q_9 := hidH (Q_8.out.below hb)
    clear hb B8 LZ_8 LY_8 LX_8 G_8 P_8 Q_8
    go_wp2_with fail
    refine (deInts_yes _ _ _ _ _ _ _ _ G_9.out.lies LZ_9.out).mono ?_; rintro e w10 ⟨rfl, hb⟩
    have B10 := hidH (bThen B9.out hb)
    have s10 := hb.size
    have LZ_10 := hidH (LZ_9.out.below hb)
    have LY_10 := hidH (LY_9.out.below hb)
    have LX_10 := hidH (LX_9.out.below hb)
    have G_10 := hidH (G_9.out.below hb)
    have P_10 := hidH (P_9.out.below hb)
    have Q_10 := hidH (Q_9.out.below hb)
    clear hb B9 LZ_9 LY_9 LX_9 G_9 P_9 Q_9
    go_wp2_with fail
    go_ret
    exact ⟨rfl, B10.out⟩
  · skip
    have hn := hfa.trans hv
    have HN := hidH hn
    clear h1 h2 h3 hv hn hfa ht
    cases hok : voteOk zs ys xs
    · skip
      have HOK := hidH hok
      clear hok
      go_wp2_with fail
      refine (vote_any _ zs _ ys _ xs _ _ _ _ _ _ _ LZ_1.out LY_1.out LX_1.out).mono ?_; rintro e w2 ⟨g, rfl, hr, hb⟩
      rw [HOK.out]
      have B2 := hidH (bThen B1.out hb)
      have s2 := hb.size
      have LZ_2 := hidH (LZ_1.out.below hb)
      have LY_2 := hidH (LY_1.out.below hb)
      have LX_2 := hidH (LX_1.out.below hb)
      have G_2 := hidH hr
      clear hb B1 LZ_1 LY_1 LX_1 hr
      go_wp2_with fail
      refine (sVote_any _ zs _ ys _ xs _ _ _ _ _ _ _ LZ_2.out LY_2.out LX_2.out).mono ?_; rintro e w3 ⟨g2, rfl, hr, hb⟩
      rw [HOK.out]
      have B3 := hidH (bThen B2.out hb)
      have s3 := hb.size
      have LZ_3 := hidH (LZ_2.out.below hb)
      have LY_3 := hidH (LY_2.out.below hb)
      have LX_3 := hidH (LX_2.out.below hb)
      have G_3 := hidH (G_2.out.below hb)
      have U_3 := hidH hr
      clear hb B2 LZ_2 LY_2 LX_2 G_2 hr
      go_wp2_with fail
      refine (deInts_yes _ _ _ _ _ _ _ _ G_3.out.lies U_3.out.lies).mono ?_; rintro e w4 ⟨rfl, hb⟩
      have B4 := hidH (bThen B3.out hb)
      have s4 := hb.size
      have LZ_4 := hidH (LZ_3.out.below hb)
      have LY_4 := hidH (LY_3.out.below hb)
      have LX_4 := hidH (LX_3.out.below hb)
      have G_4 := hidH (G_3.out.below hb)
      have U_4 := hidH (U_3.out.below hb)
      clear hb B3 LZ_3 LY_3 LX_3 G_3 U_3
      clear U_4
      go_wp2_with fail
      refine (vote_any _ xs _ zs _ ys _ _ _ _ _ _ _ LX_4.out LZ_4.out LY_4.out).mono ?_; rintro e w5 ⟨g3, rfl, hr, hb⟩
      rw [VT.out.1.1, HOK.out]
      rw [VT.out.1.2] at hr
      have B5 := hidH (bThen B4.out hb)
      have s5 := hb.size
      have LZ_5 := hidH (LZ_4.out.below hb)
      have LY_5 := hidH (LY_4.out.below hb)
      have LX_5 := hidH (LX_4.out.below hb)
      have G_5 := hidH (G_4.out.below hb)
      have P_5 := hidH hr
      clear hb B4 LZ_4 LY_4 LX_4 G_4 hr
      go_wp2_with fail
      refine (vote_any _ ys _ zs _ xs _ _ _ _ _ _ _ LY_5.out LZ_5.out LX_5.out).mono ?_; rintro e w6 ⟨g4, rfl, hr, hb⟩
      rw [VT.out.2.1, HOK.out]
      rw [VT.out.2.2] at hr
      have B6 := hidH (bThen B5.out hb)
      have s6 := hb.size
      have LZ_6 := hidH (LZ_5.out.below hb)
      have LY_6 := hidH (LY_5.out.below hb)
      have LX_6 := hidH (LX_5.out.below hb)
      have G_6 := hidH (G_5.out.below hb)
      have P_6 := hidH (P_5.out.below hb)
      have Q_6 := hidH hr
      clear hb B5 LZ_5 LY_5 LX_5 G_5 P_5 hr
      go_wp2_with fail
      refine (faulty_any _ zs _ ys _ xs _ _ _ _ _ _ _ LZ_6.out LY_6.out LX_6.out).mono ?_; rintro e w7 ⟨rfl, hb⟩
      rw [HN.out]
      have B7 := hidH (bThen B6.out hb)
      have s7 := hb.size
      have LZ_7 := hidH (LZ_6.out.below hb)
      have LY_7 := hidH (LY_6.out.below hb)
      have LX_7 := hidH (LX_6.out.below hb)
      have G_7 := hidH (G_6.out.below hb)
      have P_7 := hidH (P_6.out.below hb)
      have Q_7 := hidH (Q_6.out.below hb)
      clear hb B6 LZ_6 LY_6 LX_6 G_6 P_6 Q_6
      go_wp2_with fail
      refine (deInts_yes _ _ _ _ _ _ _ _ P_7.out.lies G_7.out.lies).mono ?_; rintro e w8 ⟨rfl, hb⟩
      have B8 := hidH (bThen B7.out hb)
      have s8 := hb.size
      have LZ_8 := hidH (LZ_7.out.below hb)
      have LY_8 := hidH (LY_7.out.below hb)
      have LX_8 := hidH (LX_7.out.below hb)
      have G_8 := hidH (G_7.out.below hb)
      have P_8 := hidH (P_7.out.below hb)
      have Q_8 := hidH (Q_7.out.below hb)
      clear hb B7 LZ_7 LY_7 LX_7 G_7 P_7 Q_7
      go_wp2_with fail
      refine (deInts_yes _ _ _ _ _ _ _ _ Q_8.out.lies G_8.out.lies).mono ?_; rintro e w9 ⟨rfl, hb⟩
      have B9 := hidH (bThen B8.out hb)
      have s9 := hb.size
      have LZ_9 := hidH (LZ_8.out.below hb)
      have LY_9 := hidH (LY_8.out.below hb)
      have LX_9 := hidH (LX_8.out.below hb)
      have G_9 := hidH (G_8.out.below hb)
      have P_9 := hidH (P_8.out.below hb)
      have Q_9 := hidH (Q_8.out.below hb)
      clear hb B8 LZ_8 LY_8 LX_8 G_8 P_8 Q_8
      go_wp2_with fail
      go_ret
      exact ⟨rfl, B9.out⟩
    · skip
      have HOK := hidH hok
      clear hok
      go_wp2_with fail
      refine (vote_any _ zs _ ys _ xs _ _ _ _ _ _ _ LZ_1.out LY_1.out LX_1.out).mono ?_; rintro e w2 ⟨g, rfl, hr, hb⟩
      rw [HOK.out]
      have B2 := hidH (bThen B1.out hb)
      have s2 := hb.size
      have LZ_2 := hidH (LZ_1.out.below hb)
      have LY_2 := hidH (LY_1.out.below hb)
      have LX_2 := hidH (LX_1.out.below hb)
      have G_2 := hidH hr
      clear hb B1 LZ_1 LY_1 LX_1 hr
      go_wp2_with fail
      refine (sVote_any _ zs _ ys _ xs _ _ _ _ _ _ _ LZ_2.out LY_2.out LX_2.out).mono ?_; rintro e w3 ⟨g2, rfl, hr, hb⟩
      rw [HOK.out]
      have B3 := hidH (bThen B2.out hb)
      have s3 := hb.size
      have LZ_3 := hidH (LZ_2.out.below hb)
      have LY_3 := hidH (LY_2.out.below hb)
      have LX_3 := hidH (LX_2.out.below hb)
      have G_3 := hidH (G_2.out.below hb)
      have U_3 := hidH hr
      clear hb B2 LZ_2 LY_2 LX_2 G_2 hr
      go_wp2_with fail
      refine (deInts_yes _ _ _ _ _ _ _ _ G_3.out.lies U_3.out.lies).mono ?_; rintro e w4 ⟨rfl, hb⟩
      have B4 := hidH (bThen B3.out hb)
      have s4 := hb.size
      have LZ_4 := hidH (LZ_3.out.below hb)
      have LY_4 := hidH (LY_3.out.below hb)
      have LX_4 := hidH (LX_3.out.below hb)
      have G_4 := hidH (G_3.out.below hb)
      have U_4 := hidH (U_3.out.below hb)
      clear hb B3 LZ_3 LY_3 LX_3 G_3 U_3
      clear U_4
      go_wp2_with fail
      refine (vote_any _ xs _ zs _ ys _ _ _ _ _ _ _ LX_4.out LZ_4.out LY_4.out).mono ?_; rintro e w5 ⟨g3, rfl, hr, hb⟩
      rw [VT.out.1.1, HOK.out]
      rw [VT.out.1.2] at hr
      have B5 := hidH (bThen B4.out hb)
      have s5 := hb.size
      have LZ_5 := hidH (LZ_4.out.below hb)
      have LY_5 := hidH (LY_4.out.below hb)
      have LX_5 := hidH (LX_4.out.below hb)
      have G_5 := hidH (G_4.out.below hb)
      have P_5 := hidH hr
      clear hb B4 LZ_4 LY_4 LX_4 G_4 hr
      go_wp2_with fail
      refine (vote_any _ ys _ zs _ xs _ _ _ _ _ _ _ LY_5.out LZ_5.out LX_5.out).mono ?_; rintro e w6 ⟨g4, rfl, hr, hb⟩
      rw [VT.out.2.1, HOK.out]
      rw [VT.out.2.2] at hr
      have B6 := hidH (bThen B5.out hb)
      have s6 := hb.size
      have LZ_6 := hidH (LZ_5.out.below hb)
      have LY_6 := hidH (LY_5.out.below hb)
      have LX_6 := hidH (LX_5.out.below hb)
      have G_6 := hidH (G_5.out.below hb)
      have P_6 := hidH (P_5.out.below hb)
      have Q_6 := hidH hr
      clear hb B5 LZ_5 LY_5 LX_5 G_5 P_5 hr
      go_wp2_with fail
      refine (faulty_any _ zs _ ys _ xs _ _ _ _ _ _ _ LZ_6.out LY_6.out LX_6.out).mono ?_; rintro e w7 ⟨rfl, hb⟩
      rw [HN.out]
      have B7 := hidH (bThen B6.out hb)
      have s7 := hb.size
      have LZ_7 := hidH (LZ_6.out.below hb)
      have LY_7 := hidH (LY_6.out.below hb)
      have LX_7 := hidH (LX_6.out.below hb)
      have G_7 := hidH (G_6.out.below hb)
      have P_7 := hidH (P_6.out.below hb)
      have Q_7 := hidH (Q_6.out.below hb)
      clear hb B6 LZ_6 LY_6 LX_6 G_6 P_6 Q_6
      go_wp2_with fail
      refine (deInts_yes _ _ _ _ _ _ _ _ P_7.out.lies G_7.out.lies).mono ?_; rintro e w8 ⟨rfl, hb⟩
      have B8 := hidH (bThen B7.out hb)
      have s8 := hb.size
      have LZ_8 := hidH (LZ_7.out.below hb)
      have LY_8 := hidH (LY_7.out.below hb)
      have LX_8 := hidH (LX_7.out.below hb)
      have G_8 := hidH (G_7.out.below hb)
      have P_8 := hidH (P_7.out.below hb)
      have Q_8 := hidH (Q_7.out.below hb)
      clear hb B7 LZ_7 LY_7 LX_7 G_7 P_7 Q_7
      go_wp2_with fail
      refine (deInts_yes _ _ _ _ _ _ _ _ Q_8.out.lies G_8.out.lies).mono ?_; rintro e w9 ⟨rfl, hb⟩
      have B9 := hidH (bThen B8.out hb)
      have s9 := hb.size
      have LZ_9 := hidH (LZ_8.out.below hb)
      have LY_9 := hidH (LY_8.out.below hb)
      have LX_9 := hidH (LX_8.out.below hb)
      have G_9 := hidH (G_8.out.below hb)
      have P_9 := hidH (P_8.out.below hb)
      have Q_9 := hidH (Q_8.out.below hb)
      clear hb B8 LZ_8 LY_8 LX_8 G_8 P_8 Q_8
      go_wp2_with fail
      go_ret
      exact ⟨rfl, B9.out⟩
set_option maxHeartbeats 3200000 in
theorem lawFaulty (a : Option Addr) (len cap : Nat) (w : World) (hc : Came w a len cap) : Calls Try.prog 7 #[.slice a len cap] w (Gives (.bool true) w) := by
  have HC := hidH hc
  have hc1 := hc.lenLe
  have hc2 := hc.capLe
  unfold maxLen at hc2
  by_cases hbig : 1048576 < len
  · go_enter Try.func7, Try.ntmps7
    go_wp2
    go_ret
    exact ⟨rfl, Below.refl _ _⟩
  have hsm : len ≤ 1048576 := by omega
  clear hbig hc
  go_enter Try.func7, Try.ntmps7
  have B0 := hidH (Below.refl w.heap.size w)
  go_wp2_with fail
  refine (drawFaultyOne a len cap _ HC.out hsm).mono ?_; rintro e w1 ⟨v, u, x, zs, ys, xs, rfl, hz, hy, hx, z61, y61, x61, hb⟩
  have B1 := hidH (bThen B0.out hb)
  have s1 := hb.size
  have LZ_1 := hidH hz
  have LY_1 := hidH hy
  have LX_1 := hidH hx
  clear hb B0  hz hy hx
  obtain ⟨za, zcap, rfl, zc1, zc2, _⟩ := LZ_1.out
  obtain ⟨ya, ycap, rfl, yc1, yc2, _⟩ := LY_1.out
  obtain ⟨xa, xcap, rfl, xc1, xc2, _⟩ := LX_1.out
  unfold maxLen at zc2 yc2 xc2
  have HTT := hidH (three_turn zs ys xs).2.2
  cases ht : threeOk zs ys xs
  · skip
    have HN := hidH (show faultA zs ys xs = -3 by rw [faultA, ht]; rfl)
    clear ht
    go_wp2_with fail
    refine (faulty_any _ zs _ ys _ xs _ _ _ _ _ _ _ LZ_1.out LY_1.out LX_1.out).mono ?_; rintro e w2 ⟨rfl, hb⟩
    rw [HN.out]
    have B2 := hidH (bThen B1.out hb)
    have s2 := hb.size
    have LZ_2 := hidH (LZ_1.out.below hb)
    have LY_2 := hidH (LY_1.out.below hb)
    have LX_2 := hidH (LX_1.out.below hb)
    clear hb B1 LZ_1 LY_1 LX_1
    go_wp2_with fail
    refine (sFaulty_any _ zs _ ys _ xs _ _ _ _ _ _ _ LZ_2.out LY_2.out LX_2.out).mono ?_; rintro e w3 ⟨rfl, hb⟩
    rw [HN.out]
    have B3 := hidH (bThen B2.out hb)
    have s3 := hb.size
    have LZ_3 := hidH (LZ_2.out.below hb)
    have LY_3 := hidH (LY_2.out.below hb)
    have LX_3 := hidH (LX_2.out.below hb)
    clear hb B2 LZ_2 LY_2 LX_2
    go_wp2_with fail
    refine (sFaulty_any _ zs _ ys _ xs _ _ _ _ _ _ _ LZ_3.out LY_3.out LX_3.out).mono ?_; rintro e w4 ⟨rfl, hb⟩
    rw [HN.out]
    have B4 := hidH (bThen B3.out hb)
    have s4 := hb.size
    have LZ_4 := hidH (LZ_3.out.below hb)
    have LY_4 := hidH (LY_3.out.below hb)
    have LX_4 := hidH (LX_3.out.below hb)
    clear hb B3 LZ_3 LY_3 LX_3
    go_wp2_with fail
    go_ret
    exact ⟨rfl, B4.out⟩
  have hfa : faultA zs ys xs = faultV zs ys xs := if_pos ht
  have hfb : faultA ys xs zs = faultV ys xs zs := if_pos (HTT.out.trans ht)
  have ⟨T1, T2, T3, T4, T5⟩ := fault_turn zs ys xs
  obtain ⟨k0, k1, k2, l1, l2⟩ := threeOk_parts ht
  have ⟨t1, t2⟩ := tableOk_len _ k0
  have L1 := hidH l1
  have L2 := hidH l2
  have L3 := hidH (l1.symm.trans l2)
  have hp1 := t1
  have HP := hidH t1
  clear k0 k1 k2 l1 l2 t1 t2 hp1
  rcases fault_cases zs ys xs with ⟨h1, h2, h3, hv⟩ | ⟨h1, h2, h3, hv⟩ | ⟨h1, h2, h3, hv⟩ | ⟨h1, h2, h3, hv⟩ | ⟨h1, h2, h3, hv⟩
  · skip
    have HN := hidH (hfa.trans hv)
    have HM := hidH (hfb.trans (T1 hv))
    have DAB := hidH (decide_eq_true h1)
    have DAC := hidH (decide_eq_true h2)
    have DBC := hidH (decide_eq_true h3)
    clear h1 h2 h3 hv hfa hfb ht T1 T2 T3 T4 T5
    go_wp2_with fail
    refine (faulty_any _ zs _ ys _ xs _ _ _ _ _ _ _ LZ_1.out LY_1.out LX_1.out).mono ?_; rintro e w2 ⟨rfl, hb⟩
    rw [HN.out]
    have B2 := hidH (bThen B1.out hb)
    have s2 := hb.size
    have LZ_2 := hidH (LZ_1.out.below hb)
    have LY_2 := hidH (LY_1.out.below hb)
    have LX_2 := hidH (LX_1.out.below hb)
    clear hb B1 LZ_1 LY_1 LX_1
    go_wp2_with fail
    refine (sFaulty_any _ zs _ ys _ xs _ _ _ _ _ _ _ LZ_2.out LY_2.out LX_2.out).mono ?_; rintro e w3 ⟨rfl, hb⟩
    rw [HN.out]
    have B3 := hidH (bThen B2.out hb)
    have s3 := hb.size
    have LZ_3 := hidH (LZ_2.out.below hb)
    have LY_3 := hidH (LY_2.out.below hb)
    have LX_3 := hidH (LX_2.out.below hb)
    clear hb B2 LZ_2 LY_2 LX_2
    go_wp2_with fail
    refine (deInts7 _ zs _ ys _ _ _ _ _ LZ_3.out LY_3.out L1.out HP.out).mono ?_; rintro e w4 ⟨rfl, hb⟩
    rw [DAB.out]
    have B4 := hidH (bThen B3.out hb)
    have s4 := hb.size
    have LZ_4 := hidH (LZ_3.out.below hb)
    have LY_4 := hidH (LY_3.out.below hb)
    have LX_4 := hidH (LX_3.out.below hb)
    clear hb B3 LZ_3 LY_3 LX_3
    go_wp2_with fail
    refine (deInts7 _ zs _ xs _ _ _ _ _ LZ_4.out LX_4.out L2.out HP.out).mono ?_; rintro e w5 ⟨rfl, hb⟩
    rw [DAC.out]
    have B5 := hidH (bThen B4.out hb)
    have s5 := hb.size
    have LZ_5 := hidH (LZ_4.out.below hb)
    have LY_5 := hidH (LY_4.out.below hb)
    have LX_5 := hidH (LX_4.out.below hb)
    clear hb B4 LZ_4 LY_4 LX_4
    go_wp2_with fail
    refine (deInts7 _ ys _ xs _ _ _ _ _ LY_5.out LX_5.out L3.out (L1.out ▸ HP.out)).mono ?_; rintro e w6 ⟨rfl, hb⟩
    rw [DBC.out]
    have B6 := hidH (bThen B5.out hb)
    have s6 := hb.size
    have LZ_6 := hidH (LZ_5.out.below hb)
    have LY_6 := hidH (LY_5.out.below hb)
    have LX_6 := hidH (LX_5.out.below hb)
    clear hb B5 LZ_5 LY_5 LX_5
    go_wp2_with fail
    refine (faulty_any _ ys _ xs _ zs _ _ _ _ _ _ _ LY_6.out LX_6.out LZ_6.out).mono ?_; rintro e w7 ⟨rfl, hb⟩
    rw [HM.out]
    have B7 := hidH (bThen B6.out hb)
    have s7 := hb.size
    have LZ_7 := hidH (LZ_6.out.below hb)
    have LY_7 := hidH (LY_6.out.below hb)
    have LX_7 := hidH (LX_6.out.below hb)
    clear hb B6 LZ_6 LY_6 LX_6
    go_wp2_with fail
    go_ret
    exact ⟨rfl, B7.out⟩
  · skip
    have HN := hidH (hfa.trans hv)
    have HM := hidH (hfb.trans (T2 hv))
    have DAB := hidH (decide_eq_false h1)
    have DAC := hidH (decide_eq_false h2)
    have DBC := hidH (decide_eq_true h3)
    clear h1 h2 h3 hv hfa hfb ht T1 T2 T3 T4 T5
    go_wp2_with fail
    refine (faulty_any _ zs _ ys _ xs _ _ _ _ _ _ _ LZ_1.out LY_1.out LX_1.out).mono ?_; rintro e w2 ⟨rfl, hb⟩
    rw [HN.out]
    have B2 := hidH (bThen B1.out hb)
    have s2 := hb.size
    have LZ_2 := hidH (LZ_1.out.below hb)
    have LY_2 := hidH (LY_1.out.below hb)
    have LX_2 := hidH (LX_1.out.below hb)
    clear hb B1 LZ_1 LY_1 LX_1
    go_wp2_with fail
    refine (sFaulty_any _ zs _ ys _ xs _ _ _ _ _ _ _ LZ_2.out LY_2.out LX_2.out).mono ?_; rintro e w3 ⟨rfl, hb⟩
    rw [HN.out]
    have B3 := hidH (bThen B2.out hb)
    have s3 := hb.size
    have LZ_3 := hidH (LZ_2.out.below hb)
    have LY_3 := hidH (LY_2.out.below hb)
    have LX_3 := hidH (LX_2.out.below hb)
    clear hb B2 LZ_2 LY_2 LX_2
    go_wp2_with fail
    refine (deInts7 _ zs _ ys _ _ _ _ _ LZ_3.out LY_3.out L1.out HP.out).mono ?_; rintro e w4 ⟨rfl, hb⟩
    rw [DAB.out]
    have B4 := hidH (bThen B3.out hb)
    have s4 := hb.size
    have LZ_4 := hidH (LZ_3.out.below hb)
    have LY_4 := hidH (LY_3.out.below hb)
    have LX_4 := hidH (LX_3.out.below hb)
    clear hb B3 LZ_3 LY_3 LX_3
    go_wp2_with fail
    refine (deInts7 _ zs _ xs _ _ _ _ _ LZ_4.out LX_4.out L2.out HP.out).mono ?_; rintro e w5 ⟨rfl, hb⟩
    rw [DAC.out]
    have B5 := hidH (bThen B4.out hb)
    have s5 := hb.size
    have LZ_5 := hidH (LZ_4.out.below hb)
    have LY_5 := hidH (LY_4.out.below hb)
    have LX_5 := hidH (LX_4.out.below hb)
    clear hb B4 LZ_4 LY_4 LX_4
    go_wp2_with fail
    refine (deInts7 _ ys _ xs _ _ _ _ _ LY_5.out LX_5.out L3.out (L1.out ▸ HP.out)).mono ?_; rintro e w6 ⟨rfl, hb⟩
    rw [DBC.out]
    have B6 := hidH (bThen B5.out hb)
    have s6 := hb.size
    have LZ_6 := hidH (LZ_5.out.below hb)
    have LY_6 := hidH (LY_5.out.below hb)
    have LX_6 := hidH (LX_5.out.below hb)
    clear hb B5 LZ_5 LY_5 LX_5
    go_wp2_with fail
    refine (faulty_any _ ys _ xs _ zs _ _ _ _ _ _ _ LY_6.out LX_6.out LZ_6.out).mono ?_; rintro e w7 ⟨rfl, hb⟩
    rw [HM.out]
    have B7 := hidH (bThen B6.out hb)
    have s7 := hb.size
    have LZ_7 := hidH (LZ_6.out.below hb)
    have LY_7 := hidH (LY_6.out.below hb)
    have LX_7 := hidH (LX_6.out.below hb)
    clear hb B6 LZ_6 LY_6 LX_6
    go_wp2_with fail
    go_ret
    exact ⟨rfl, B7.out⟩
  · skip
    have HN := hidH (hfa.trans hv)
    have HM := hidH (hfb.trans (T3 hv))
    have DAB := hidH (decide_eq_false h1)
    have DAC := hidH (decide_eq_true h2)
    have DBC := hidH (decide_eq_false h3)
    clear h1 h2 h3 hv hfa hfb ht T1 T2 T3 T4 T5
    go_wp2_with fail
    refine (faulty_any _ zs _ ys _ xs _ _ _ _ _ _ _ LZ_1.out LY_1.out LX_1.out).mono ?_; rintro e w2 ⟨rfl, hb⟩
    rw [HN.out]
    have B2 := hidH (bThen B1.out hb)
    have s2 := hb.size
    have LZ_2 := hidH (LZ_1.out.below hb)
    have LY_2 := hidH (LY_1.out.below hb)
    have LX_2 := hidH (LX_1.out.below hb)
    clear hb B1 LZ_1 LY_1 LX_1
    go_wp2_with fail
    refine (sFaulty_any _ zs _ ys _ xs _ _ _ _ _ _ _ LZ_2.out LY_2.out LX_2.out).mono ?_; rintro e w3 ⟨rfl, hb⟩
    rw [HN.out]
    have B3 := hidH (bThen B2.out hb)
    have s3 := hb.size
    have LZ_3 := hidH (LZ_2.out.below hb)
    have LY_3 := hidH (LY_2.out.below hb)
    have LX_3 := hidH (LX_2.out.below hb)
    clear hb B2 LZ_2 LY_2 LX_2
    go_wp2_with fail
    refine (deInts7 _ zs _ ys _ _ _ _ _ LZ_3.out LY_3.out L1.out HP.out).mono ?_; rintro e w4 ⟨rfl, hb⟩
    rw [DAB.out]
    have B4 := hidH (bThen B3.out hb)
    have s4 := hb.size
    have LZ_4 := hidH (LZ_3.out.below hb)
    have LY_4 := hidH (LY_3.out.below hb)
    have LX_4 := hidH (LX_3.out.below hb)
    clear hb B3 LZ_3 LY_3 LX_3
    go_wp2_with fail
    refine (deInts7 _ zs _ xs _ _ _ _ _ LZ_4.out LX_4.out L2.out HP.out).mono ?_; rintro e w5 ⟨rfl, hb⟩
    rw [DAC.out]
    have B5 := hidH (bThen B4.out hb)
    have s5 := hb.size
    have LZ_5 := hidH (LZ_4.out.below hb)
    have LY_5 := hidH (LY_4.out.below hb)
    have LX_5 := hidH (LX_4.out.below hb)
    clear hb B4 LZ_4 LY_4 LX_4
    go_wp2_with fail
    refine (deInts7 _ ys _ xs _ _ _ _ _ LY_5.out LX_5.out L3.out (L1.out ▸ HP.out)).mono ?_; rintro e w6 ⟨rfl, hb⟩
    rw [DBC.out]
    have B6 := hidH (bThen B5.out hb)
    have s6 := hb.size
    have LZ_6 := hidH (LZ_5.out.below hb)
    have LY_6 := hidH (LY_5.out.below hb)
    have LX_6 := hidH (LX_5.out.below hb)
    clear hb B5 LZ_5 LY_5 LX_5
    go_wp2_with fail
    refine (faulty_any _ ys _ xs _ zs _ _ _ _ _ _ _ LY_6.out LX_6.out LZ_6.out).mono ?_; rintro e w7 ⟨rfl, hb⟩
    rw [HM.out]
    have B7 := hidH (bThen B6.out hb)
    have s7 := hb.size
    have LZ_7 := hidH (LZ_6.out.below hb)
    have LY_7 := hidH (LY_6.out.below hb)
    have LX_7 := hidH (LX_6.out.below hb)
    clear hb B6 LZ_6 LY_6 LX_6
    go_wp2_with fail
    go_ret
    exact ⟨rfl, B7.out⟩
  · skip
    have HN := hidH (hfa.trans hv)
    have HM := hidH (hfb.trans (T4 hv))
    have DAB := hidH (decide_eq_true h1)
    have DAC := hidH (decide_eq_false h2)
    have DBC := hidH (decide_eq_false h3)
    clear h1 h2 h3 hv hfa hfb ht T1 T2 T3 T4 T5
    go_wp2_with fail
    refine (faulty_any _ zs _ ys _ xs _ _ _ _ _ _ _ LZ_1.out LY_1.out LX_1.out).mono ?_; rintro e w2 ⟨rfl, hb⟩
    rw [HN.out]
    have B2 := hidH (bThen B1.out hb)
    have s2 := hb.size
    have LZ_2 := hidH (LZ_1.out.below hb)
    have LY_2 := hidH (LY_1.out.below hb)
    have LX_2 := hidH (LX_1.out.below hb)
    clear hb B1 LZ_1 LY_1 LX_1
    go_wp2_with fail
    refine (sFaulty_any _ zs _ ys _ xs _ _ _ _ _ _ _ LZ_2.out LY_2.out LX_2.out).mono ?_; rintro e w3 ⟨rfl, hb⟩
    rw [HN.out]
    have B3 := hidH (bThen B2.out hb)
    have s3 := hb.size
    have LZ_3 := hidH (LZ_2.out.below hb)
    have LY_3 := hidH (LY_2.out.below hb)
    have LX_3 := hidH (LX_2.out.below hb)
    clear hb B2 LZ_2 LY_2 LX_2
    go_wp2_with fail
    refine (deInts7 _ zs _ ys _ _ _ _ _ LZ_3.out LY_3.out L1.out HP.out).mono ?_; rintro e w4 ⟨rfl, hb⟩
    rw [DAB.out]
    have B4 := hidH (bThen B3.out hb)
    have s4 := hb.size
    have LZ_4 := hidH (LZ_3.out.below hb)
    have LY_4 := hidH (LY_3.out.below hb)
    have LX_4 := hidH (LX_3.out.below hb)
    clear hb B3 LZ_3 LY_3 LX_3
    go_wp2_with fail
    refine (deInts7 _ zs _ xs _ _ _ _ _ LZ_4.out LX_4.out L2.out HP.out).mono ?_; rintro e w5 ⟨rfl, hb⟩
    rw [DAC.out]
    have B5 := hidH (bThen B4.out hb)
    have s5 := hb.size
    have LZ_5 := hidH (LZ_4.out.below hb)
    have LY_5 := hidH (LY_4.out.below hb)
    have LX_5 := hidH (LX_4.out.below hb)
    clear hb B4 LZ_4 LY_4 LX_4
    go_wp2_with fail
    refine (deInts7 _ ys _ xs _ _ _ _ _ LY_5.out LX_5.out L3.out (L1.out ▸ HP.out)).mono ?_; rintro e w6 ⟨rfl, hb⟩
    rw [DBC.out]
    have B6 := hidH (bThen B5.out hb)
    have s6 := hb.size
    have LZ_6 := hidH (LZ_5.out.below hb)
    have LY_6 := hidH (LY_5.out.below hb)
    have LX_6 := hidH (LX_5.out.below hb)
    clear hb B5 LZ_5 LY_5 LX_5
    go_wp2_with fail
    refine (faulty_any _ ys _ xs _ zs _ _ _ _ _ _ _ LY_6.out LX_6.out LZ_6.out).mono ?_; rintro e w7 ⟨rfl, hb⟩
    rw [HM.out]
    have B7 := hidH (bThen B6.out hb)
    have s7 := hb.size
    have LZ_7 := hidH (LZ_6.out.below hb)
    have LY_7 := hidH (LY_6.out.below hb)
    have LX_7 := hidH (LX_6.out.below hb)
    clear hb B6 LZ_6 LY_6 LX_6
    go_wp2_with fail
    go_ret
    exact ⟨rfl, B7.out⟩
  · skip
    have HN := hidH (hfa.trans hv)
    have HM := hidH (hfb.trans (T5 hv))
    have DAB := hidH (decide_eq_false h1)
    have DAC := hidH (decide_eq_false h2)
    have DBC := hidH (decide_eq_false h3)
    clear h1 h2 h3 hv hfa hfb ht T1 T2 T3 T4 T5
    go_wp2_with fail
    refine (faulty_any _ zs _ ys _ xs _ _ _ _ _ _ _ LZ_1.out LY_1.out LX_1.out).mono ?_; rintro e w2 ⟨rfl, hb⟩
    rw [HN.out]
    have B2 := hidH (bThen B1.out hb)
    have s2 := hb.size
    have LZ_2 := hidH (LZ_1.out.below hb)
    have LY_2 := hidH (LY_1.out.below hb)
    have LX_2 := hidH (LX_1.out.below hb)
    clear hb B1 LZ_1 LY_1 LX_1
    go_wp2_with fail
    refine (sFaulty_any _ zs _ ys _ xs _ _ _ _ _ _ _ LZ_2.out LY_2.out LX_2.out).mono ?_; rintro e w3 ⟨rfl, hb⟩
    rw [HN.out]
    have B3 := hidH (bThen B2.out hb)
    have s3 := hb.size
    have LZ_3 := hidH (LZ_2.out.below hb)
    have LY_3 := hidH (LY_2.out.below hb)
    have LX_3 := hidH (LX_2.out.below hb)
    clear hb B2 LZ_2 LY_2 LX_2
    go_wp2_with fail
    refine (deInts7 _ zs _ ys _ _ _ _ _ LZ_3.out LY_3.out L1.out HP.out).mono ?_; rintro e w4 ⟨rfl, hb⟩
    rw [DAB.out]
    have B4 := hidH (bThen B3.out hb)
    have s4 := hb.size
    have LZ_4 := hidH (LZ_3.out.below hb)
    have LY_4 := hidH (LY_3.out.below hb)
    have LX_4 := hidH (LX_3.out.below hb)
    clear hb B3 LZ_3 LY_3 LX_3
    go_wp2_with fail
    refine (deInts7 _ zs _ xs _ _ _ _ _ LZ_4.out LX_4.out L2.out HP.out).mono ?_; rintro e w5 ⟨rfl, hb⟩
    rw [DAC.out]
    have B5 := hidH (bThen B4.out hb)
    have s5 := hb.size
    have LZ_5 := hidH (LZ_4.out.below hb)
    have LY_5 := hidH (LY_4.out.below hb)
    have LX_5 := hidH (LX_4.out.below hb)
    clear hb B4 LZ_4 LY_4 LX_4
    go_wp2_with fail
    refine (deInts7 _ ys _ xs _ _ _ _ _ LY_5.out LX_5.out L3.out (L1.out ▸ HP.out)).mono ?_; rintro e w6 ⟨rfl, hb⟩
    rw [DBC.out]
    have B6 := hidH (bThen B5.out hb)
    have s6 := hb.size
    have LZ_6 := hidH (LZ_5.out.below hb)
    have LY_6 := hidH (LY_5.out.below hb)
    have LX_6 := hidH (LX_5.out.below hb)
    clear hb B5 LZ_5 LY_5 LX_5
    go_wp2_with fail
    refine (faulty_any _ ys _ xs _ zs _ _ _ _ _ _ _ LY_6.out LX_6.out LZ_6.out).mono ?_; rintro e w7 ⟨rfl, hb⟩
    rw [HM.out]
    have B7 := hidH (bThen B6.out hb)
    have s7 := hb.size
    have LZ_7 := hidH (LZ_6.out.below hb)
    have LY_7 := hidH (LY_6.out.below hb)
    have LX_7 := hidH (LX_6.out.below hb)
    clear hb B6 LZ_6 LY_6 LX_6
    go_wp2_with fail
    go_ret
    exact ⟨rfl, B7.out⟩
end Go.Proofs.Ythinpmhoklehaaa
