/-
  Products of polynomials: the program and the model, at every argument. No conditions but that slices fit in memory.
-/
import Derived.Test.YtgenniaklpheoaaPolyFc
namespace Go.Proofs.Ytgenniaklpheoaa
open Go.RowKit
theorem mul_no (v0 : Value) (zs0 : List Int) (v1 : Value) (zs1 : List Int) (w : World) (lo0 hi0 : Nat) (lo1 hi1 : Nat) (hv0 : Lies w lo0 hi0 v0 zs0) (hv1 : Lies w lo1 hi1 v1 zs1) (h : (polyOk zs0 && polyOk zs1 && mulOk zs0 zs1) = false) : Calls Try.prog 12 #[v0, v1] w (NewRowB [] false w) := by
  have HV0_0 := hidH hv0
  clear hv0
  have HV1_0 := hidH hv1
  clear hv1
  have HB0 := hidH (Below.refl w.heap.size w)
  cases hc0 : polyOk zs0
  · have HC0 := hidH hc0
    clear h hc0
    go_enter Try.func12, Try.ntmps12
    go_wp2_with fail
    refine (polyValid_any _ zs0 _ _ _ HV0_0.out).mono ?_; rintro e w1 ⟨rfl, hb⟩
    have HV0_1 := hidH (HV0_0.out.below hb)
    clear HV0_0
    have HV1_1 := hidH (HV1_0.out.below hb)
    clear HV1_0
    have HB1 := hidH (HB0.out.trans (hb.mono HB0.out.size))
    clear hb HB0
    rw [HC0.out]
    go_wp2_with fail
    go_ret2
    exact ⟨_, rfl, Row.nil _ _ _ _ _ (Nat.zero_le _) (fun _ => rfl), HB1.out⟩
  · rw [hc0, Bool.true_and] at h
    have HC0 := hidH hc0
    clear hc0
    cases hc1 : polyOk zs1
    · have HC1 := hidH hc1
      clear h hc1
      go_enter Try.func12, Try.ntmps12
      go_wp2_with fail
      refine (polyValid_any _ zs0 _ _ _ HV0_0.out).mono ?_; rintro e w1 ⟨rfl, hb⟩
      have HV0_1 := hidH (HV0_0.out.below hb)
      clear HV0_0
      have HV1_1 := hidH (HV1_0.out.below hb)
      clear HV1_0
      have HB1 := hidH (HB0.out.trans (hb.mono HB0.out.size))
      clear hb HB0
      rw [HC0.out]
      go_wp2_with fail
      refine (polyValid_any _ zs1 _ _ _ HV1_1.out).mono ?_; rintro e w2 ⟨rfl, hb⟩
      have HV0_2 := hidH (HV0_1.out.below hb)
      clear HV0_1
      have HV1_2 := hidH (HV1_1.out.below hb)
      clear HV1_1
      have HB2 := hidH (HB1.out.trans (hb.mono HB1.out.size))
      clear hb HB1
      rw [HC1.out]
      go_wp2_with fail
      go_ret2
      exact ⟨_, rfl, Row.nil _ _ _ _ _ (Nat.zero_le _) (fun _ => rfl), HB2.out⟩
    · rw [hc1, Bool.true_and] at h
      have HC1 := hidH hc1
      clear hc1
      · have HC2 := hidH h
        have hcc := of_decide_eq_false HC2.out
        clear h
        rcases (show 8 < zs0.length + zs1.length by omega) with hcf
        · clear hcc
          obtain ⟨a0, cap0, rfl, hlc0, hcm0, _⟩ := HV0_0.out
          obtain ⟨a1, cap1, rfl, hlc1, hcm1, _⟩ := HV1_0.out
          unfold maxLen at hcm0 hcm1
          have hp7 := (polyOk_small _ HC0.out).2.1
          have hq7 := (polyOk_small _ HC1.out).2.1
          go_enter Try.func12, Try.ntmps12
          go_wp2_with fail
          refine (polyValid_any _ zs0 _ _ _ HV0_0.out).mono ?_; rintro e w1 ⟨rfl, hb⟩
          have HV0_1 := hidH (HV0_0.out.below hb)
          clear HV0_0
          have HV1_1 := hidH (HV1_0.out.below hb)
          clear HV1_0
          have HB1 := hidH (HB0.out.trans (hb.mono HB0.out.size))
          clear hb HB0
          rw [HC0.out]
          go_wp2_with fail
          refine (polyValid_any _ zs1 _ _ _ HV1_1.out).mono ?_; rintro e w2 ⟨rfl, hb⟩
          have HV0_2 := hidH (HV0_1.out.below hb)
          clear HV0_1
          have HV1_2 := hidH (HV1_1.out.below hb)
          clear HV1_1
          have HB2 := hidH (HB1.out.trans (hb.mono HB1.out.size))
          clear hb HB1
          rw [HC1.out]
          go_wp2_with fail
          go_ret2
          exact ⟨_, rfl, Row.nil _ _ _ _ _ (Nat.zero_le _) (fun _ => rfl), HB2.out⟩
set_option maxHeartbeats 800000 in
theorem mul_yes (v0 : Value) (zs0 : List Int) (v1 : Value) (zs1 : List Int) (w : World) (lo0 hi0 : Nat) (lo1 hi1 : Nat) (hv0 : Lies w lo0 hi0 v0 zs0) (hv1 : Lies w lo1 hi1 v1 zs1) (hc0 : (polyOk zs0) = true) (hc1 : (polyOk zs1) = true) (hc2 : (mulOk zs0 zs1) = true) : Calls Try.prog 12 #[v0, v1] w (NewRowB (resL (leadW (zs0.length + zs1.length - 1) (mulV zs0 zs1 (zs0.length + zs1.length - 1)))) (polyOk (leadW (zs0.length + zs1.length - 1) (mulV zs0 zs1 (zs0.length + zs1.length - 1)))) w) := by
  have HV0_0 := hidH hv0
  clear hv0
  have HV1_0 := hidH hv1
  clear hv1
  have HB0 := hidH (Below.refl w.heap.size w)
  have HC0 := hidH hc0
  have HC1 := hidH hc1
  have HC2 := hidH hc2
  have hct := of_decide_eq_true HC2.out
  have ⟨h1, hs⟩ := polyOk_small _ HC0.out
  have h7 := hs.1
  have HS := hidH hs
  have ⟨h1y, hsy⟩ := polyOk_small _ HC1.out
  have h7y := hsy.1
  have HSY := hidH hsy
  clear hs hsy
  have hme : (((zs0.length + zs1.length - 1) : Nat) : Int) = (zs0.length : Int) + (zs1.length : Int) - 1 := by omega
  have hm8 : (zs0.length + zs1.length - 1) ≤ 7 := by omega
  obtain ⟨a0, cap0, rfl, hlc0, hcm0, _⟩ := HV0_0.out
  obtain ⟨a1, cap1, rfl, hlc1, hcm1, _⟩ := HV1_0.out
  unfold maxLen at hcm0 hcm1
  clear hc0 hc1 hc2
  go_enter Try.func12, Try.ntmps12
  go_wp2_with fail
  refine (polyValid_any _ zs0 _ _ _ HV0_0.out).mono ?_; rintro e w1 ⟨rfl, hb⟩
  have HV0_1 := hidH (HV0_0.out.below hb)
  clear HV0_0
  have HV1_1 := hidH (HV1_0.out.below hb)
  clear HV1_0
  have HB1 := hidH (HB0.out.trans (hb.mono HB0.out.size))
  clear hb HB0
  rw [HC0.out]
  go_wp2_with fail
  refine (polyValid_any _ zs1 _ _ _ HV1_1.out).mono ?_; rintro e w2 ⟨rfl, hb⟩
  have HV0_2 := hidH (HV0_1.out.below hb)
  clear HV0_1
  have HV1_2 := hidH (HV1_1.out.below hb)
  clear HV1_1
  have HB2 := hidH (HB1.out.trans (hb.mono HB1.out.size))
  clear hb HB1
  rw [HC1.out]
  have HLL := hidH (mulV_length zs0 zs1 (zs0.length + zs1.length - 1))
  have HM := hidH (Blk.made w2 3 (zs0.length + zs1.length - 1))
  have hmk := run_make_row' (P := Try.prog) 23 3 (.int .i64 0) 8 Try.underlying23 infoInt rfl .i64 .i64 (zs0.length + zs1.length - 1) (by omega) (by omega) w2
  have hmk2 := hmk
  rw [hme] at hmk2
  have hme2 := hme
  clear hmk
  go_wp2_with fail
  go_loopw [34] (fun i wr => ∃ k : Nat, k ≤ (zs0.length + zs1.length - 1) ∧ i = .int .i64 k ∧ Blk wr (w2).heap.size (fill (mulV zs0 zs1 (zs0.length + zs1.length - 1)) k) ∧ Below (w2).heap.size w2 wr) (fun i _ => (zs0.length + zs1.length - 1) - (intOf i).toNat)
  case atStart => exact ⟨0, Nat.zero_le _, rfl, by have := HM.out; rw [fill_zero, HLL.out]; exact this, (Below.refl _ _).alloc (Nat.le_refl _) _⟩
  case round =>
    obtain ⟨k, hk, rfl, hblk, hb⟩ := hrel
    have HBK := hidH hblk
    have HBq := hidH hb
    clear hblk hb
    by_cases hlt : k < (zs0.length + zs1.length - 1)
    · obtain ⟨ho, hf⟩ := HBK.out.2 k 0 (fill_at _ _ (by rw [HLL.out]; exact hlt))
      have ⟨b1, b2⟩ := (HS.out).bd (k : Int) (by omega) (by omega)
      have ⟨b3, b4⟩ := prod_bd HS.out HSY.out k (by omega)
      have HG := hidH (fill_set _ k _ (mulV_get zs0 zs1 (zs0.length + zs1.length - 1) k hlt))
      go_wp2_with fail
      refine (valueAt_any _ zs0 k (by omega) (by omega) HS.out wr _ _ (HV0_2.out.below HBq.out)).mono ?_; rintro e w5 ⟨rfl, q, rfl⟩
      go_wp2_with fail
      refine (valueAt_any _ zs1 k (by omega) (by omega) HSY.out _ _ _ (HV1_2.out.below (below_drewN HBq.out q))).mono ?_; rintro e w6 ⟨rfl, q2, rfl⟩
      have HST := hidH (((HBK.out.drewN q).drewN q2).set k (evP zs0 k * evP zs1 k))
      go_wp2_with fail
      go_roundw
      case rel => exact ⟨k + 1, by omega, by go_num, by rw [← HG.out]; simpa using HST.out, by have := (below_drewN (below_drewN HBq.out q) q2).setCell (p := ⟨(w2).heap.size, k, none⟩) (Nat.le_refl _) (.int .i64 (evP zs0 k * evP zs1 k)); simpa using this⟩
      case measure => simp [intOf]; omega
    · obtain rfl : k = (zs0.length + zs1.length - 1) := by omega
      have h := HBK.out
      have e := fill_all (mulV zs0 zs1 (zs0.length + zs1.length - 1))
      rw [HLL.out] at e
      rw [e] at h
      have HRW := hidH (h.row (lo := (w2).heap.size) (cap := (zs0.length + zs1.length - 1)) (n := (zs0.length + zs1.length - 1)) (Nat.le_refl _) h.1 (by rw [HLL.out]; exact Nat.le_refl _) (by unfold maxLen; omega) HLL.out.symm)
      clear h e
      have HT := through_any _ _ wr _ _ HRW.out.lies (by rw [HLL.out]; omega)
      rw [HLL.out] at HT
      have HT := hidH HT
      generalize leadW (zs0.length + zs1.length - 1) (mulV zs0 zs1 (zs0.length + zs1.length - 1)) = L at *
      generalize polyOk L = r at *
      go_wp2_with (go_at_call 46; refine HT.out.mono ?_; rintro e w2 ⟨v2, rfl, hr, hb⟩)
      go_ret2
      have hsz := HB2.out.size
      exact ⟨_, rfl, hr.mono (by have := HBq.out.size; omega) (Nat.le_refl _), HB2.out.trans ((HBq.out.trans (hb.mono HBq.out.size)).mono hsz)⟩
theorem mul_any (v0 : Value) (zs0 : List Int) (v1 : Value) (zs1 : List Int) (w : World) (lo0 hi0 : Nat) (lo1 hi1 : Nat) (hv0 : Lies w lo0 hi0 v0 zs0) (hv1 : Lies w lo1 hi1 v1 zs1) : Calls Try.prog 12 #[v0, v1] w (NewRowB (mulA zs0 zs1) (mulB zs0 zs1) w) := by
  unfold mulA mulB
  cases h : (polyOk zs0 && polyOk zs1 && mulOk zs0 zs1)
  · exact mul_no v0 zs0 v1 zs1 w lo0 hi0 lo1 hi1 hv0 hv1 h
  · have h' := h
    try simp only [Bool.and_eq_true] at h'
    exact mul_yes v0 zs0 v1 zs1 w lo0 hi0 lo1 hi1 hv0 hv1 h'.1.1 h'.1.2 h'.2
theorem sMul_no (v0 : Value) (zs0 : List Int) (v1 : Value) (zs1 : List Int) (w : World) (lo0 hi0 : Nat) (lo1 hi1 : Nat) (hv0 : Lies w lo0 hi0 v0 zs0) (hv1 : Lies w lo1 hi1 v1 zs1) (h : (polyOk zs0 && polyOk zs1 && mulOk zs0 zs1) = false) : Calls Try.prog 13 #[v0, v1] w (NewRowB [] false w) := by
  have HV0_0 := hidH hv0
  clear hv0
  have HV1_0 := hidH hv1
  clear hv1
  have HB0 := hidH (Below.refl w.heap.size w)
  cases hc0 : polyOk zs0
  · have HC0 := hidH hc0
    clear h hc0
    go_enter Try.func13, Try.ntmps13
    go_wp2_with fail
    refine (sPolyValid_gives _ zs0 _ _ _ HV0_0.out).mono ?_; rintro e w1 ⟨rfl, hb⟩
    have HV0_1 := hidH (HV0_0.out.below hb)
    clear HV0_0
    have HV1_1 := hidH (HV1_0.out.below hb)
    clear HV1_0
    have HB1 := hidH (HB0.out.trans (hb.mono HB0.out.size))
    clear hb HB0
    rw [HC0.out]
    go_wp2_with fail
    go_ret2
    exact ⟨_, rfl, Row.nil _ _ _ _ _ (Nat.zero_le _) (fun _ => rfl), HB1.out.trans (((Below.refl _ _).alloc (Nat.le_refl _) _).mono HB1.out.size)⟩
  · rw [hc0, Bool.true_and] at h
    have HC0 := hidH hc0
    clear hc0
    cases hc1 : polyOk zs1
    · have HC1 := hidH hc1
      clear h hc1
      go_enter Try.func13, Try.ntmps13
      go_wp2_with fail
      refine (sPolyValid_gives _ zs0 _ _ _ HV0_0.out).mono ?_; rintro e w1 ⟨rfl, hb⟩
      have HV0_1 := hidH (HV0_0.out.below hb)
      clear HV0_0
      have HV1_1 := hidH (HV1_0.out.below hb)
      clear HV1_0
      have HB1 := hidH (HB0.out.trans (hb.mono HB0.out.size))
      clear hb HB0
      rw [HC0.out]
      go_wp2_with fail
      refine (sPolyValid_gives _ zs1 _ _ _ HV1_1.out).mono ?_; rintro e w2 ⟨rfl, hb⟩
      have HV0_2 := hidH (HV0_1.out.below hb)
      clear HV0_1
      have HV1_2 := hidH (HV1_1.out.below hb)
      clear HV1_1
      have HB2 := hidH (HB1.out.trans (hb.mono HB1.out.size))
      clear hb HB1
      rw [HC1.out]
      go_wp2_with fail
      go_ret2
      exact ⟨_, rfl, Row.nil _ _ _ _ _ (Nat.zero_le _) (fun _ => rfl), HB2.out.trans (((Below.refl _ _).alloc (Nat.le_refl _) _).mono HB2.out.size)⟩
    · rw [hc1, Bool.true_and] at h
      have HC1 := hidH hc1
      clear hc1
      · have HC2 := hidH h
        have hcc := of_decide_eq_false HC2.out
        clear h
        rcases (show 8 < zs0.length + zs1.length by omega) with hcf
        · clear hcc
          obtain ⟨a0, cap0, rfl, hlc0, hcm0, _⟩ := HV0_0.out
          obtain ⟨a1, cap1, rfl, hlc1, hcm1, _⟩ := HV1_0.out
          unfold maxLen at hcm0 hcm1
          have hp7 := (polyOk_small _ HC0.out).2.1
          have hq7 := (polyOk_small _ HC1.out).2.1
          go_enter Try.func13, Try.ntmps13
          go_wp2_with fail
          refine (sPolyValid_gives _ zs0 _ _ _ HV0_0.out).mono ?_; rintro e w1 ⟨rfl, hb⟩
          have HV0_1 := hidH (HV0_0.out.below hb)
          clear HV0_0
          have HV1_1 := hidH (HV1_0.out.below hb)
          clear HV1_0
          have HB1 := hidH (HB0.out.trans (hb.mono HB0.out.size))
          clear hb HB0
          rw [HC0.out]
          go_wp2_with fail
          refine (sPolyValid_gives _ zs1 _ _ _ HV1_1.out).mono ?_; rintro e w2 ⟨rfl, hb⟩
          have HV0_2 := hidH (HV0_1.out.below hb)
          clear HV0_1
          have HV1_2 := hidH (HV1_1.out.below hb)
          clear HV1_1
          have HB2 := hidH (HB1.out.trans (hb.mono HB1.out.size))
          clear hb HB1
          rw [HC1.out]
          go_wp2_with fail
          go_ret2
          exact ⟨_, rfl, Row.nil _ _ _ _ _ (Nat.zero_le _) (fun _ => rfl), HB2.out.trans (((Below.refl _ _).alloc (Nat.le_refl _) _).mono HB2.out.size)⟩
set_option maxHeartbeats 800000 in
theorem sMul_yes (v0 : Value) (zs0 : List Int) (v1 : Value) (zs1 : List Int) (w : World) (lo0 hi0 : Nat) (lo1 hi1 : Nat) (hv0 : Lies w lo0 hi0 v0 zs0) (hv1 : Lies w lo1 hi1 v1 zs1) (hc0 : (polyOk zs0) = true) (hc1 : (polyOk zs1) = true) (hc2 : (mulOk zs0 zs1) = true) : Calls Try.prog 13 #[v0, v1] w (NewRowB (resL (leadW (zs0.length + zs1.length - 1) (mulV zs0 zs1 (zs0.length + zs1.length - 1)))) (polyOk (leadW (zs0.length + zs1.length - 1) (mulV zs0 zs1 (zs0.length + zs1.length - 1)))) w) := by
  have HV0_0 := hidH hv0
  clear hv0
  have HV1_0 := hidH hv1
  clear hv1
  have HB0 := hidH (Below.refl w.heap.size w)
  have HC0 := hidH hc0
  have HC1 := hidH hc1
  have HC2 := hidH hc2
  have hct := of_decide_eq_true HC2.out
  have ⟨h1, hs⟩ := polyOk_small _ HC0.out
  have h7 := hs.1
  have HS := hidH hs
  have ⟨h1y, hsy⟩ := polyOk_small _ HC1.out
  have h7y := hsy.1
  have HSY := hidH hsy
  clear hs hsy
  have hme : (((zs0.length + zs1.length - 1) : Nat) : Int) = (zs0.length : Int) + (zs1.length : Int) - 1 := by omega
  have hm8 : (zs0.length + zs1.length - 1) ≤ 7 := by omega
  obtain ⟨a0, cap0, rfl, hlc0, hcm0, _⟩ := HV0_0.out
  obtain ⟨a1, cap1, rfl, hlc1, hcm1, _⟩ := HV1_0.out
  unfold maxLen at hcm0 hcm1
  clear hc0 hc1 hc2
  go_enter Try.func13, Try.ntmps13
  go_wp2_with fail
  refine (sPolyValid_gives _ zs0 _ _ _ HV0_0.out).mono ?_; rintro e w1 ⟨rfl, hb⟩
  have HV0_1 := hidH (HV0_0.out.below hb)
  clear HV0_0
  have HV1_1 := hidH (HV1_0.out.below hb)
  clear HV1_0
  have HB1 := hidH (HB0.out.trans (hb.mono HB0.out.size))
  clear hb HB0
  rw [HC0.out]
  go_wp2_with fail
  refine (sPolyValid_gives _ zs1 _ _ _ HV1_1.out).mono ?_; rintro e w2 ⟨rfl, hb⟩
  have HV0_2 := hidH (HV0_1.out.below hb)
  clear HV0_1
  have HV1_2 := hidH (HV1_1.out.below hb)
  clear HV1_1
  have HB2 := hidH (HB1.out.trans (hb.mono HB1.out.size))
  clear hb HB1
  rw [HC1.out]
  obtain ⟨i0, hi0, hz0, hz1, hz2⟩ := info_parts infoInt
  have HO := hidH (World.ownsRow_made (base := (w2).heap.size) (e := 3) (size := 1) w2 #[] 0 (Nat.le_refl _) (Nat.zero_le _) rfl)
  have HLL := hidH (mulV_length zs0 zs1 (zs0.length + zs1.length - 1))
  go_wp2_with fail
  go_loopw [6, 7] (fun o i wr => ∃ (k : Nat) (ov : Value), k ≤ (zs0.length + zs1.length - 1) ∧ i = .int .i64 k ∧ ov = o ∧ wr.ownsRow (w2).heap.size 3 1 ov k (ints ((mulV zs0 zs1 (zs0.length + zs1.length - 1)).take k)) ∧ Below (w2).heap.size w2 wr) (fun _ i _ => (zs0.length + zs1.length - 1) - (intOf i).toNat)
  case atStart => exact ⟨0, _, Nat.zero_le _, rfl, rfl, HO.out, (Below.refl _ _).alloc (Nat.le_refl _) _⟩
  case round =>
    obtain ⟨k, ov, hk, rfl, rfl, hown, hb⟩ := hrel
    have HW := hidH hown
    have HBq := hidH hb
    clear hown hb
    have hszq := HBq.out.size
    by_cases hlt : k < (zs0.length + zs1.length - 1)
    · have HX := hidH (ints_snoc _ k _ (mulV_get zs0 zs1 (zs0.length + zs1.length - 1) k hlt))
      have ⟨b1, b2⟩ := (HS.out).bd (k : Int) (by omega) (by omega)
      have ⟨b3, b4⟩ := prod_bd HS.out HSY.out k (by omega)
      have hle : (k : Int) < (zs0.length : Int) + (zs1.length : Int) - 1 := by omega
      go_wp2_with fail
      refine (sEvalL_any _ zs0 k (by omega) (by omega) HS.out wr _ _ (HV0_2.out.below HBq.out)).mono ?_; rintro e w5 ⟨rfl, q, rfl⟩
      go_wp2_with fail
      refine (sEvalL_any _ zs1 k (by omega) (by omega) HSY.out _ _ _ (HV1_2.out.below (below_drewN HBq.out q))).mono ?_; rintro e w6 ⟨rfl, q2, rfl⟩
      go_wp2_with (at_builtin; refine wpList_append_own _ rfl _ _ 23 rfl (w2).heap.size 3 i0 (.int .i64 0) 1 8 Try.underlying23 hi0 hz0 hz1 hz2 rfl (by decide) _ _ _ rfl (owns_below HW.out (below_drewN ((Below.refl _ wr).alloc (Nat.le_refl _) _) (q + q2))) ⟨wr.heap.size, 0, none⟩ 1 1 [.int .i64 (evP zs0 (k : Int) * evP zs1 (k : Int))] rfl rfl (news_one wr _ _) (one_one _) (by unfold maxLen; omega) (by omega) (by simp; omega) ?_)
      intro v' w1 hown1 hgrow _
      have HR := hidH hown1
      have HG := hidH hgrow
      clear hown1 hgrow
      go_wp2_with fail
      go_roundw
      case rel =>
        refine ⟨k + 1, v', by omega, by go_num, rfl, ?_, ?_⟩
        · have h := HR.out
          rw [HX.out] at h
          exact h
        · exact (below_drewN (HBq.out.alloc hszq _) (q + q2)).grown HG.out (by simp; omega) fun g hg => (HW.out.lt g hg).1
      case measure => simp [intOf]; omega
    · obtain rfl : k = (zs0.length + zs1.length - 1) := by omega
      have h := HW.out
      rw [List.take_of_length_le (by rw [HLL.out]; exact Nat.le_refl _)] at h
      have HRW := hidH (row_of_owns h).1
      clear h
      have HT := sResult_any _ _ wr _ _ HRW.out.lies (by rw [HLL.out]; omega)
      rw [HLL.out] at HT
      have HT := hidH HT
      generalize leadW (zs0.length + zs1.length - 1) (mulV zs0 zs1 (zs0.length + zs1.length - 1)) = L at *
      generalize polyOk L = r at *
      go_wp2_with (go_at_call 49; refine HT.out.mono ?_; rintro e w2 ⟨v2, rfl, hr, hb⟩)
      go_ret2
      have hsz := HB2.out.size
      exact ⟨_, rfl, hr.mono (by have := HBq.out.size; omega) (Nat.le_refl _), HB2.out.trans ((HBq.out.trans (hb.mono HBq.out.size)).mono hsz)⟩
theorem sMul_any (v0 : Value) (zs0 : List Int) (v1 : Value) (zs1 : List Int) (w : World) (lo0 hi0 : Nat) (lo1 hi1 : Nat) (hv0 : Lies w lo0 hi0 v0 zs0) (hv1 : Lies w lo1 hi1 v1 zs1) : Calls Try.prog 13 #[v0, v1] w (NewRowB (mulA zs0 zs1) (mulB zs0 zs1) w) := by
  unfold mulA mulB
  cases h : (polyOk zs0 && polyOk zs1 && mulOk zs0 zs1)
  · exact sMul_no v0 zs0 v1 zs1 w lo0 hi0 lo1 hi1 hv0 hv1 h
  · have h' := h
    try simp only [Bool.and_eq_true] at h'
    exact sMul_yes v0 zs0 v1 zs1 w lo0 hi0 lo1 hi1 hv0 hv1 h'.1.1 h'.1.2 h'.2
end Go.Proofs.Ytgenniaklpheoaa
