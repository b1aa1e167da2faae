/-
  The walk of the exact law of PartEngines. Condition: slices of at most 1048576 numbers.
-/
import Derived.Test.YtgogpajafjihdaaEsE
import Derived.Test.YtgogpajafjihdaaSl
namespace Go.Proofs.Ytgogpajafjihdaa
set_option maxRecDepth 4000
open Go.RowKit
set_option maxHeartbeats 1600000 in
theorem exPartEngines (v0 : Value) (zs0 : List Int) (n1 : Int) (v2 : Value) (zs2 : List Int) (n3 : Int) (w : World) (hv0 : Lies w 0 w.heap.size v0 zs0) (hv2 : Lies w 0 w.heap.size v2 zs2) : Calls Try.prog 4 #[v0, .int .i64 n1, v2, .int .i64 n3] w (Gives (.bool true) w) := by
  have HV0 := hidH hv0
  obtain ⟨a0, cap0, rfl, hlc0, hcm0, hnil0, hcell0⟩ := hv0
  clear hnil0 hcell0
  have HV2 := hidH hv2
  obtain ⟨a2, cap2, rfl, hlc2, hcm2, hnil2, hcell2⟩ := hv2
  clear hnil2 hcell2
  unfold maxLen at hcm0 hcm2
  by_cases hbig0 : 1048576 < zs0.length
  · go_enter Try.func4, Try.ntmps4
    go_wp2
    go_ret
    exact ⟨rfl, Below.refl _ _⟩
  have hsm0 : zs0.length ≤ 1048576 := by omega
  clear hbig0
  by_cases hbig2 : 1048576 < zs2.length
  · go_enter Try.func4, Try.ntmps4
    go_wp2
    go_ret
    exact ⟨rfl, Below.refl _ _⟩
  have hsm2 : zs2.length ≤ 1048576 := by omega
  clear hbig2
  go_enter Try.func4, Try.ntmps4
  have B0 := hidH (Below.refl w.heap.size w)
  go_wp2_with fail
  refine (toInts_any _ zs0 _ ((HV0.out.below B0.out).mono (Nat.le_refl _) B0.out.size) hsm0).mono ?_; rintro e w1 ⟨t0, rfl, hr, hb⟩
  have B1 := hidH (bThen B0.out hb)
  have s1 := hb.size
  have T0_1 := hidH hr
  clear hb B0  hr
  go_wp2_with fail
  refine (toInts_any _ zs2 _ ((HV2.out.below B1.out).mono (Nat.le_refl _) B1.out.size) hsm2).mono ?_; rintro e w2 ⟨t2, rfl, hr, hb⟩
  have B2 := hidH (bThen B1.out hb)
  have s2 := hb.size
  have T0_2 := hidH (T0_1.out.below hb)
  have T2_2 := hidH hr
  clear hb B1 T0_1 hr
  go_wp2_with fail
  refine (sPartEng_any t0 zs0 n1 t2 zs2 n3 _ _ _ _ _ T0_2.out.lies T2_2.out.lies hsm2).mono ?_; rintro e w3 ⟨u, rfl, hr, hb⟩
  have B3 := hidH (bThen B2.out hb)
  have s3 := hb.size
  have T0_3 := hidH (T0_2.out.below hb)
  have T2_3 := hidH (T2_2.out.below hb)
  have W_3 := hidH hr
  clear hb B2 T0_2 T2_2 hr
  clear T0_3
  clear T2_3
  go_wp2_with fail
  refine (toInts_any _ zs0 _ ((HV0.out.below B3.out).mono (Nat.le_refl _) B3.out.size) hsm0).mono ?_; rintro e w4 ⟨x0, rfl, hr, hb⟩
  have B4 := hidH (bThen B3.out hb)
  have s4 := hb.size
  have W_4 := hidH (W_3.out.below hb)
  have X0_4 := hidH hr
  clear hb B3 W_3 hr
  go_wp2_with fail
  refine (toInts_any _ zs2 _ ((HV2.out.below B4.out).mono (Nat.le_refl _) B4.out.size) hsm2).mono ?_; rintro e w5 ⟨x2, rfl, hr, hb⟩
  have B5 := hidH (bThen B4.out hb)
  have s5 := hb.size
  have W_5 := hidH (W_4.out.below hb)
  have X0_5 := hidH (X0_4.out.below hb)
  have X2_5 := hidH hr
  clear hb B4 W_4 X0_4 hr
  go_wp2_with fail
  refine (partEng_any x0 zs0 n1 x2 zs2 n3 _ _ _ _ _ X0_5.out.lies X2_5.out.lies hsm2).mono ?_; rintro e w6 ⟨g, rfl, hr, hb⟩
  have B6 := hidH (bThen B5.out hb)
  have s6 := hb.size
  have W_6 := hidH (W_5.out.below hb)
  have X0_6 := hidH (X0_5.out.below hb)
  have X2_6 := hidH (X2_5.out.below hb)
  have G_6 := hidH hr
  clear hb B5 W_5 X0_5 X2_5 hr
  have hlens := partA_len zs0 n1 zs2 n3
  generalize hrs : partA zs0 n1 zs2 n3 = rs at *
  have HRS := hidH hrs
  clear hrs
  generalize hrb : partB zs0 n1 zs2 n3 = rb at *
  have HRB := hidH hrb
  clear hrb
  have hlen : rs.length ≤ 1048576 := by omega
  have hlE : lenE rs ≤ 1048576 := by omega
  go_wp2_with fail
  refine (eqEs_yes g u rs _ _ _ G_6.out.lies W_6.out hlen).mono ?_; rintro e w7 ⟨rfl, hb⟩
  have B7 := hidH (bThen B6.out hb)
  have s7 := hb.size
  have W_7 := hidH (W_6.out.below hb)
  have X0_7 := hidH (X0_6.out.below hb)
  have X2_7 := hidH (X2_6.out.below hb)
  have G_7 := hidH (G_6.out.below hb)
  clear hb B6 W_6 X0_6 X2_6 G_6
  go_wp2_with fail
  refine (toInts_any _ zs0 _ ((HV0.out.below B7.out).mono (Nat.le_refl _) B7.out.size) hsm0).mono ?_; rintro e w8 ⟨y0, rfl, hr, hb⟩
  have B8 := hidH (bThen B7.out hb)
  have s8 := hb.size
  have W_8 := hidH (W_7.out.below hb)
  have X0_8 := hidH (X0_7.out.below hb)
  have X2_8 := hidH (X2_7.out.below hb)
  have G_8 := hidH (G_7.out.below hb)
  have Y0_8 := hidH hr
  clear hb B7 W_7 X0_7 X2_7 G_7 hr
  go_wp2_with fail
  refine (eqInts_yes x0 y0 zs0 _ _ _ _ _ X0_8.out.lies Y0_8.out.lies).mono ?_; rintro e w9 ⟨rfl, hb⟩
  have B9 := hidH (bThen B8.out hb)
  have s9 := hb.size
  have W_9 := hidH (W_8.out.below hb)
  have X0_9 := hidH (X0_8.out.below hb)
  have X2_9 := hidH (X2_8.out.below hb)
  have G_9 := hidH (G_8.out.below hb)
  have Y0_9 := hidH (Y0_8.out.below hb)
  clear hb B8 W_8 X0_8 X2_8 G_8 Y0_8
  clear Y0_9
  go_wp2_with fail
  refine (toInts_any _ zs2 _ ((HV2.out.below B9.out).mono (Nat.le_refl _) B9.out.size) hsm2).mono ?_; rintro e w10 ⟨y2, rfl, hr, hb⟩
  have B10 := hidH (bThen B9.out hb)
  have s10 := hb.size
  have W_10 := hidH (W_9.out.below hb)
  have X0_10 := hidH (X0_9.out.below hb)
  have X2_10 := hidH (X2_9.out.below hb)
  have G_10 := hidH (G_9.out.below hb)
  have Y2_10 := hidH hr
  clear hb B9 W_9 X0_9 X2_9 G_9 hr
  go_wp2_with fail
  refine (eqInts_yes x2 y2 zs2 _ _ _ _ _ X2_10.out.lies Y2_10.out.lies).mono ?_; rintro e w11 ⟨rfl, hb⟩
  have B11 := hidH (bThen B10.out hb)
  have s11 := hb.size
  have W_11 := hidH (W_10.out.below hb)
  have X0_11 := hidH (X0_10.out.below hb)
  have X2_11 := hidH (X2_10.out.below hb)
  have G_11 := hidH (G_10.out.below hb)
  have Y2_11 := hidH (Y2_10.out.below hb)
  clear hb B10 W_10 X0_10 X2_10 G_10 Y2_10
  clear Y2_11
  go_wp2_with fail
  refine (mark_any x0 zs0 (1) _ _ _ X0_11.out (by omega) (by omega) hsm0).mono ?_; rintro e w12 ⟨rfl, hr, ha⟩
  have s12 := ha.size
  have B12 := hidH (B11.out.trans (ha.below (by have := B11.out.size; omega) B11.out.size))
  have W_12 := hidH (W_11.out.apart ha (by omega))
  have X2_12 := hidH (X2_11.out.apart ha (by omega))
  have G_12 := hidH (G_11.out.apart ha (by omega))
  have X0_12 := hidH hr
  clear ha B11 W_11 X0_11 X2_11 G_11 hr
  go_wp2_with fail
  refine (mark_any x2 zs2 (1 + (zs0.length : Int)) _ _ _ X2_12.out (by omega) (by omega) hsm2).mono ?_; rintro e w13 ⟨rfl, hr, ha⟩
  have s13 := ha.size
  have B13 := hidH (B12.out.trans (ha.below (by have := B12.out.size; omega) B12.out.size))
  have W_13 := hidH (W_12.out.apart ha (by omega))
  have X0_13 := hidH (X0_12.out.apart ha (by omega))
  have G_13 := hidH (G_12.out.apart ha (by omega))
  have X2_13 := hidH hr
  clear ha B12 W_12 X0_12 X2_12 G_12 hr
  clear X0_13
  clear X2_13
  go_wp2_with fail
  refine (eqEs_yes g u rs _ _ _ G_13.out.lies W_13.out hlen).mono ?_; rintro e w14 ⟨rfl, hb⟩
  have B14 := hidH (bThen B13.out hb)
  have s14 := hb.size
  have W_14 := hidH (W_13.out.below hb)
  have G_14 := hidH (G_13.out.below hb)
  clear hb B13 W_13 G_13
  go_wp2_with fail
  refine (markEs_any g rs 1 _ _ _ G_14.out (by omega) (by omega) hlE).mono ?_; rintro e w15 ⟨rfl, hr, ha⟩
  have s15 := ha.size
  have B15 := hidH (B14.out.trans (ha.below (by have := B14.out.size; omega) B14.out.size))
  have W_15 := hidH (W_14.out.apart ha (by omega))
  have G_15 := hidH hr
  clear ha B14 W_14 G_14 hr
  go_wp2_with fail
  refine (heldEs_any g rs 1 _ _ G_15.out.lies (by omega) (by omega) hlE).mono ?_; rintro e w16 ⟨rfl, hb⟩
  have B16 := hidH (bThen B15.out hb)
  have s16 := hb.size
  have W_16 := hidH (W_15.out.below hb)
  have G_16 := hidH (G_15.out.below hb)
  clear hb B15 W_15 G_15
  go_wp2_with fail
  refine (toInts_any _ zs0 _ ((HV0.out.below B16.out).mono (Nat.le_refl _) B16.out.size) hsm0).mono ?_; rintro e w17 ⟨t0_, rfl, hr, hb⟩
  have B17 := hidH (bThen B16.out hb)
  have s17 := hb.size
  have W_17 := hidH (W_16.out.below hb)
  have G_17 := hidH (G_16.out.below hb)
  have T0_17 := hidH hr
  clear hb B16 W_16 G_16 hr
  go_wp2_with fail
  refine (toInts_any _ zs2 _ ((HV2.out.below B17.out).mono (Nat.le_refl _) B17.out.size) hsm2).mono ?_; rintro e w18 ⟨t2_, rfl, hr, hb⟩
  have B18 := hidH (bThen B17.out hb)
  have s18 := hb.size
  have W_18 := hidH (W_17.out.below hb)
  have G_18 := hidH (G_17.out.below hb)
  have T0_18 := hidH (T0_17.out.below hb)
  have T2_18 := hidH hr
  clear hb B17 W_17 G_17 T0_17 hr
  go_wp2_with fail
  refine (partEng_any t0_ zs0 n1 t2_ zs2 n3 _ _ _ _ _ T0_18.out.lies T2_18.out.lies hsm2).mono ?_; rintro e w19 ⟨h, rfl, hr, hb⟩
  rw [HRS.out] at hr
  rw [HRB.out]
  have B19 := hidH (bThen B18.out hb)
  have s19 := hb.size
  have W_19 := hidH (W_18.out.below hb)
  have G_19 := hidH (G_18.out.below hb)
  have T0_19 := hidH (T0_18.out.below hb)
  have T2_19 := hidH (T2_18.out.below hb)
  have H_19 := hidH hr
  clear hb B18 W_18 G_18 T0_18 T2_18 hr
  go_wp2_with fail
  refine (eqEs_yes h u rs _ _ _ H_19.out.lies W_19.out hlen).mono ?_; rintro e w20 ⟨rfl, hb⟩
  have B20 := hidH (bThen B19.out hb)
  have s20 := hb.size
  have W_20 := hidH (W_19.out.below hb)
  have G_20 := hidH (G_19.out.below hb)
  have T0_20 := hidH (T0_19.out.below hb)
  have T2_20 := hidH (T2_19.out.below hb)
  have H_20 := hidH (H_19.out.below hb)
  clear hb B19 W_19 G_19 T0_19 T2_19 H_19
  go_wp2_with fail
  refine (heldEs_any g rs 1 _ _ G_20.out.lies (by omega) (by omega) hlE).mono ?_; rintro e w21 ⟨rfl, hb⟩
  have B21 := hidH (bThen B20.out hb)
  have s21 := hb.size
  have W_21 := hidH (W_20.out.below hb)
  have G_21 := hidH (G_20.out.below hb)
  have T0_21 := hidH (T0_20.out.below hb)
  have T2_21 := hidH (T2_20.out.below hb)
  have H_21 := hidH (H_20.out.below hb)
  clear hb B20 W_20 G_20 T0_20 T2_20 H_20
  go_wp2_with fail
  go_ret
  exact ⟨rfl, B21.out⟩
end Go.Proofs.Ytgogpajafjihdaa
