/-
  The walks of the exact laws of ProductOf, Vote and FaultyOne. Condition: slices of at most 1048576 numbers.
-/
import Derived.Test.YtmgncchlghmmoaaHouH
import Derived.Test.YtmgncchlghmmoaaHouK
import Derived.Test.YtmgncchlghmmoaaSl
namespace Go.Proofs.Ytmgncchlghmmoaa
set_option maxRecDepth 4000
open Go.RowKit
set_option maxHeartbeats 1000000 in
theorem exProductOf (v0 : Value) (zs0 : List Int) (n1 : Int) (n2 : Int) (w : World) (hv0 : Lies w 0 w.heap.size v0 zs0) : Calls Try.prog 7 #[v0, .int .i64 n1, .int .i64 n2] w (Gives (.bool true) w) := by
  have HV0 := hidH hv0
  obtain ⟨a0, cap0, rfl, hlc0, hcm0, hnil0, hcell0⟩ := hv0
  clear hnil0 hcell0
  unfold maxLen at hcm0
  by_cases hbig0 : 1048576 < zs0.length
  · go_enter Try.func7, Try.ntmps7
    go_wp2
    go_ret
    exact ⟨rfl, Below.refl _ _⟩
  · have hsm0 : zs0.length ≤ 1048576 := by omega
    clear hbig0
    go_enter Try.func7, Try.ntmps7
    have B0 := hidH (Below.refl w.heap.size w)
    go_wp2_with fail
    refine (toInts_any _ zs0 _ ((HV0.out.below B0.out).mono (Nat.le_refl _) B0.out.size) hsm0).mono ?_; rintro e w1 ⟨t0, rfl, hr, hb⟩
    have B1 := hidH (B0.out.trans (hb.mono B0.out.size))
    have s1 := hb.size
    have T0_1 := hidH hr
    clear hb hr
    clear B0 
    go_wp2_with fail
    refine (sProd_any t0 zs0 n1 n2 _ _ _ T0_1.out.lies).mono ?_; rintro e w2 ⟨rfl, hb⟩
    have B2 := hidH (B1.out.trans (hb.mono B1.out.size))
    have s2 := hb.size
    have T0_2 := hidH (T0_1.out.below hb)
    clear hb
    clear B1 T0_1
    clear T0_2
    go_wp2_with fail
    refine (toInts_any _ zs0 _ ((HV0.out.below B2.out).mono (Nat.le_refl _) B2.out.size) hsm0).mono ?_; rintro e w3 ⟨x0, rfl, hr, hb⟩
    have B3 := hidH (B2.out.trans (hb.mono B2.out.size))
    have s3 := hb.size
    have X0_3 := hidH hr
    clear hb hr
    clear B2 
    go_wp2_with fail
    refine (prod_any x0 zs0 n1 n2 _ _ _ X0_3.out.lies).mono ?_; rintro e w4 ⟨rfl, hb⟩
    have B4 := hidH (B3.out.trans (hb.mono B3.out.size))
    have s4 := hb.size
    have X0_4 := hidH (X0_3.out.below hb)
    clear hb
    clear B3 X0_3
    generalize prodA zs0 n1 n2 = r0 at *
    generalize prodOk zs0 n1 n2 = r1 at *
    go_wp2_with fail
    refine (toInts_any _ zs0 _ ((HV0.out.below B4.out).mono (Nat.le_refl _) B4.out.size) hsm0).mono ?_; rintro e w5 ⟨y0, rfl, hr, hb⟩
    have B5 := hidH (B4.out.trans (hb.mono B4.out.size))
    have s5 := hb.size
    have X0_5 := hidH (X0_4.out.below hb)
    have Y0_5 := hidH hr
    clear hb hr
    clear B4 X0_4
    go_wp2_with fail
    refine (eqInts_yes x0 y0 zs0 _ _ _ _ _ X0_5.out.lies Y0_5.out.lies).mono ?_; rintro e w6 ⟨rfl, hb⟩
    have B6 := hidH (B5.out.trans (hb.mono B5.out.size))
    have s6 := hb.size
    have X0_6 := hidH (X0_5.out.below hb)
    have Y0_6 := hidH (Y0_5.out.below hb)
    clear hb
    clear B5 X0_5 Y0_5
    clear Y0_6
    go_wp2
    go_ret
    exact ⟨rfl, B6.out⟩
set_option maxHeartbeats 1000000 in
theorem exVote (v0 : Value) (zs0 : List Int) (v1 : Value) (zs1 : List Int) (v2 : Value) (zs2 : List Int) (w : World) (hv0 : Lies w 0 w.heap.size v0 zs0) (hv1 : Lies w 0 w.heap.size v1 zs1) (hv2 : Lies w 0 w.heap.size v2 zs2) : Calls Try.prog 8 #[v0, v1, v2] w (Gives (.bool true) w) := by
  have HV0 := hidH hv0
  obtain ⟨a0, cap0, rfl, hlc0, hcm0, hnil0, hcell0⟩ := hv0
  clear hnil0 hcell0
  have HV1 := hidH hv1
  obtain ⟨a1, cap1, rfl, hlc1, hcm1, hnil1, hcell1⟩ := hv1
  clear hnil1 hcell1
  have HV2 := hidH hv2
  obtain ⟨a2, cap2, rfl, hlc2, hcm2, hnil2, hcell2⟩ := hv2
  clear hnil2 hcell2
  unfold maxLen at hcm0 hcm1 hcm2
  by_cases hbig0 : 1048576 < zs0.length
  · go_enter Try.func8, Try.ntmps8
    go_wp2
    go_ret
    exact ⟨rfl, Below.refl _ _⟩
  · have hsm0 : zs0.length ≤ 1048576 := by omega
    clear hbig0
    by_cases hbig1 : 1048576 < zs1.length
    · go_enter Try.func8, Try.ntmps8
      go_wp2
      go_ret
      exact ⟨rfl, Below.refl _ _⟩
    · have hsm1 : zs1.length ≤ 1048576 := by omega
      clear hbig1
      by_cases hbig2 : 1048576 < zs2.length
      · go_enter Try.func8, Try.ntmps8
        go_wp2
        go_ret
        exact ⟨rfl, Below.refl _ _⟩
      · have hsm2 : zs2.length ≤ 1048576 := by omega
        clear hbig2
        go_enter Try.func8, Try.ntmps8
        have B0 := hidH (Below.refl w.heap.size w)
        go_wp2_with fail
        refine (toInts_any _ zs0 _ ((HV0.out.below B0.out).mono (Nat.le_refl _) B0.out.size) hsm0).mono ?_; rintro e w1 ⟨t0, rfl, hr, hb⟩
        have B1 := hidH (B0.out.trans (hb.mono B0.out.size))
        have s1 := hb.size
        have T0_1 := hidH hr
        clear hb hr
        clear B0 
        go_wp2_with fail
        refine (toInts_any _ zs1 _ ((HV1.out.below B1.out).mono (Nat.le_refl _) B1.out.size) hsm1).mono ?_; rintro e w2 ⟨t1, rfl, hr, hb⟩
        have B2 := hidH (B1.out.trans (hb.mono B1.out.size))
        have s2 := hb.size
        have T0_2 := hidH (T0_1.out.below hb)
        have T1_2 := hidH hr
        clear hb hr
        clear B1 T0_1
        go_wp2_with fail
        refine (toInts_any _ zs2 _ ((HV2.out.below B2.out).mono (Nat.le_refl _) B2.out.size) hsm2).mono ?_; rintro e w3 ⟨t2, rfl, hr, hb⟩
        have B3 := hidH (B2.out.trans (hb.mono B2.out.size))
        have s3 := hb.size
        have T0_3 := hidH (T0_2.out.below hb)
        have T1_3 := hidH (T1_2.out.below hb)
        have T2_3 := hidH hr
        clear hb hr
        clear B2 T0_2 T1_2
        go_wp2_with fail
        refine (sVote_any t0 zs0 t1 zs1 t2 zs2 _ _ _ _ _ _ _ T0_3.out.lies T1_3.out.lies T2_3.out.lies).mono ?_; rintro e w4 ⟨u, rfl, hr, hb⟩
        have B4 := hidH (B3.out.trans (hb.mono B3.out.size))
        have s4 := hb.size
        have T0_4 := hidH (T0_3.out.below hb)
        have T1_4 := hidH (T1_3.out.below hb)
        have T2_4 := hidH (T2_3.out.below hb)
        have W_4 := hidH hr
        clear hb hr
        clear B3 T0_3 T1_3 T2_3
        clear T0_4
        clear T1_4
        clear T2_4
        go_wp2_with fail
        refine (toInts_any _ zs0 _ ((HV0.out.below B4.out).mono (Nat.le_refl _) B4.out.size) hsm0).mono ?_; rintro e w5 ⟨x0, rfl, hr, hb⟩
        have B5 := hidH (B4.out.trans (hb.mono B4.out.size))
        have s5 := hb.size
        have W_5 := hidH (W_4.out.below hb)
        have X0_5 := hidH hr
        clear hb hr
        clear B4 W_4
        go_wp2_with fail
        refine (toInts_any _ zs1 _ ((HV1.out.below B5.out).mono (Nat.le_refl _) B5.out.size) hsm1).mono ?_; rintro e w6 ⟨x1, rfl, hr, hb⟩
        have B6 := hidH (B5.out.trans (hb.mono B5.out.size))
        have s6 := hb.size
        have W_6 := hidH (W_5.out.below hb)
        have X0_6 := hidH (X0_5.out.below hb)
        have X1_6 := hidH hr
        clear hb hr
        clear B5 W_5 X0_5
        go_wp2_with fail
        refine (toInts_any _ zs2 _ ((HV2.out.below B6.out).mono (Nat.le_refl _) B6.out.size) hsm2).mono ?_; rintro e w7 ⟨x2, rfl, hr, hb⟩
        have B7 := hidH (B6.out.trans (hb.mono B6.out.size))
        have s7 := hb.size
        have W_7 := hidH (W_6.out.below hb)
        have X0_7 := hidH (X0_6.out.below hb)
        have X1_7 := hidH (X1_6.out.below hb)
        have X2_7 := hidH hr
        clear hb hr
        clear B6 W_6 X0_6 X1_6
        go_wp2_with fail
        refine (vote_any x0 zs0 x1 zs1 x2 zs2 _ _ _ _ _ _ _ X0_7.out.lies X1_7.out.lies X2_7.out.lies).mono ?_; rintro e w8 ⟨g, rfl, hr, hb⟩
        have B8 := hidH (B7.out.trans (hb.mono B7.out.size))
        have s8 := hb.size
        have W_8 := hidH (W_7.out.below hb)
        have X0_8 := hidH (X0_7.out.below hb)
        have X1_8 := hidH (X1_7.out.below hb)
        have X2_8 := hidH (X2_7.out.below hb)
        have G_8 := hidH hr
        clear hb hr
        clear B7 W_7 X0_7 X1_7 X2_7
        have hlen := voteA_len zs0 zs1 zs2
        generalize hrs : voteA zs0 zs1 zs2 = rs at *
        have HRS := hidH hrs
        clear hrs
        generalize hrb : voteOk zs0 zs1 zs2 = rb at *
        have HRB := hidH hrb
        clear hrb
        go_wp2_with fail
        refine (eqInts_yes g u rs _ _ _ _ _ G_8.out.lies W_8.out.lies).mono ?_; rintro e w9 ⟨rfl, hb⟩
        have B9 := hidH (B8.out.trans (hb.mono B8.out.size))
        have s9 := hb.size
        have W_9 := hidH (W_8.out.below hb)
        have X0_9 := hidH (X0_8.out.below hb)
        have X1_9 := hidH (X1_8.out.below hb)
        have X2_9 := hidH (X2_8.out.below hb)
        have G_9 := hidH (G_8.out.below hb)
        clear hb
        clear B8 W_8 X0_8 X1_8 X2_8 G_8
        go_wp2_with fail
        refine (toInts_any _ zs0 _ ((HV0.out.below B9.out).mono (Nat.le_refl _) B9.out.size) hsm0).mono ?_; rintro e w10 ⟨y0, rfl, hr, hb⟩
        have B10 := hidH (B9.out.trans (hb.mono B9.out.size))
        have s10 := hb.size
        have W_10 := hidH (W_9.out.below hb)
        have X0_10 := hidH (X0_9.out.below hb)
        have X1_10 := hidH (X1_9.out.below hb)
        have X2_10 := hidH (X2_9.out.below hb)
        have G_10 := hidH (G_9.out.below hb)
        have Y0_10 := hidH hr
        clear hb hr
        clear B9 W_9 X0_9 X1_9 X2_9 G_9
        go_wp2_with fail
        refine (eqInts_yes x0 y0 zs0 _ _ _ _ _ X0_10.out.lies Y0_10.out.lies).mono ?_; rintro e w11 ⟨rfl, hb⟩
        have B11 := hidH (B10.out.trans (hb.mono B10.out.size))
        have s11 := hb.size
        have W_11 := hidH (W_10.out.below hb)
        have X0_11 := hidH (X0_10.out.below hb)
        have X1_11 := hidH (X1_10.out.below hb)
        have X2_11 := hidH (X2_10.out.below hb)
        have G_11 := hidH (G_10.out.below hb)
        have Y0_11 := hidH (Y0_10.out.below hb)
        clear hb
        clear B10 W_10 X0_10 X1_10 X2_10 G_10 Y0_10
        clear Y0_11
        go_wp2_with fail
        refine (toInts_any _ zs1 _ ((HV1.out.below B11.out).mono (Nat.le_refl _) B11.out.size) hsm1).mono ?_; rintro e w12 ⟨y1, rfl, hr, hb⟩
        have B12 := hidH (B11.out.trans (hb.mono B11.out.size))
        have s12 := hb.size
        have W_12 := hidH (W_11.out.below hb)
        have X0_12 := hidH (X0_11.out.below hb)
        have X1_12 := hidH (X1_11.out.below hb)
        have X2_12 := hidH (X2_11.out.below hb)
        have G_12 := hidH (G_11.out.below hb)
        have Y1_12 := hidH hr
        clear hb hr
        clear B11 W_11 X0_11 X1_11 X2_11 G_11
        go_wp2_with fail
        refine (eqInts_yes x1 y1 zs1 _ _ _ _ _ X1_12.out.lies Y1_12.out.lies).mono ?_; rintro e w13 ⟨rfl, hb⟩
        have B13 := hidH (B12.out.trans (hb.mono B12.out.size))
        have s13 := hb.size
        have W_13 := hidH (W_12.out.below hb)
        have X0_13 := hidH (X0_12.out.below hb)
        have X1_13 := hidH (X1_12.out.below hb)
        have X2_13 := hidH (X2_12.out.below hb)
        have G_13 := hidH (G_12.out.below hb)
        have Y1_13 := hidH (Y1_12.out.below hb)
        clear hb
        clear B12 W_12 X0_12 X1_12 X2_12 G_12 Y1_12
        clear Y1_13
        go_wp2_with fail
        refine (toInts_any _ zs2 _ ((HV2.out.below B13.out).mono (Nat.le_refl _) B13.out.size) hsm2).mono ?_; rintro e w14 ⟨y2, rfl, hr, hb⟩
        have B14 := hidH (B13.out.trans (hb.mono B13.out.size))
        have s14 := hb.size
        have W_14 := hidH (W_13.out.below hb)
        have X0_14 := hidH (X0_13.out.below hb)
        have X1_14 := hidH (X1_13.out.below hb)
        have X2_14 := hidH (X2_13.out.below hb)
        have G_14 := hidH (G_13.out.below hb)
        have Y2_14 := hidH hr
        clear hb hr
        clear B13 W_13 X0_13 X1_13 X2_13 G_13
        go_wp2_with fail
        refine (eqInts_yes x2 y2 zs2 _ _ _ _ _ X2_14.out.lies Y2_14.out.lies).mono ?_; rintro e w15 ⟨rfl, hb⟩
        have B15 := hidH (B14.out.trans (hb.mono B14.out.size))
        have s15 := hb.size
        have W_15 := hidH (W_14.out.below hb)
        have X0_15 := hidH (X0_14.out.below hb)
        have X1_15 := hidH (X1_14.out.below hb)
        have X2_15 := hidH (X2_14.out.below hb)
        have G_15 := hidH (G_14.out.below hb)
        have Y2_15 := hidH (Y2_14.out.below hb)
        clear hb
        clear B14 W_14 X0_14 X1_14 X2_14 G_14 Y2_14
        clear Y2_15
        go_wp2_with fail
        refine (mark_any x0 zs0 (1) _ _ _ X0_15.out (by omega) (by omega) hsm0).mono ?_; rintro e w16 ⟨rfl, hr, ha⟩
        have s16 := ha.size
        have B16 := hidH (B15.out.trans (ha.below (by have := B15.out.size; omega) B15.out.size))
        have W_16 := hidH (W_15.out.apart ha (by omega))
        have X1_16 := hidH (X1_15.out.apart ha (by omega))
        have X2_16 := hidH (X2_15.out.apart ha (by omega))
        have G_16 := hidH (G_15.out.apart ha (by omega))
        have X0_16 := hidH hr
        clear ha hr
        clear B15 W_15 X0_15 X1_15 X2_15 G_15
        go_wp2_with fail
        refine (mark_any x1 zs1 (1 + (zs0.length : Int)) _ _ _ X1_16.out (by omega) (by omega) hsm1).mono ?_; rintro e w17 ⟨rfl, hr, ha⟩
        have s17 := ha.size
        have B17 := hidH (B16.out.trans (ha.below (by have := B16.out.size; omega) B16.out.size))
        have W_17 := hidH (W_16.out.apart ha (by omega))
        have X0_17 := hidH (X0_16.out.apart ha (by omega))
        have X2_17 := hidH (X2_16.out.apart ha (by omega))
        have G_17 := hidH (G_16.out.apart ha (by omega))
        have X1_17 := hidH hr
        clear ha hr
        clear B16 W_16 X0_16 X1_16 X2_16 G_16
        go_wp2_with fail
        refine (mark_any x2 zs2 (1 + (zs0.length : Int) + (zs1.length : Int)) _ _ _ X2_17.out (by omega) (by omega) hsm2).mono ?_; rintro e w18 ⟨rfl, hr, ha⟩
        have s18 := ha.size
        have B18 := hidH (B17.out.trans (ha.below (by have := B17.out.size; omega) B17.out.size))
        have W_18 := hidH (W_17.out.apart ha (by omega))
        have X0_18 := hidH (X0_17.out.apart ha (by omega))
        have X1_18 := hidH (X1_17.out.apart ha (by omega))
        have G_18 := hidH (G_17.out.apart ha (by omega))
        have X2_18 := hidH hr
        clear ha hr
        clear B17 W_17 X0_17 X1_17 X2_17 G_17
        clear X0_18
        clear X1_18
        clear X2_18
        go_wp2_with fail
        refine (eqInts_yes g u rs _ _ _ _ _ G_18.out.lies W_18.out.lies).mono ?_; rintro e w19 ⟨rfl, hb⟩
        have B19 := hidH (B18.out.trans (hb.mono B18.out.size))
        have s19 := hb.size
        have W_19 := hidH (W_18.out.below hb)
        have G_19 := hidH (G_18.out.below hb)
        clear hb
        clear B18 W_18 G_18
        go_wp2_with fail
        refine (mark_any g rs 1 _ _ _ G_19.out (by omega) (by omega) hlen).mono ?_; rintro e w20 ⟨rfl, hr, ha⟩
        have s20 := ha.size
        have B20 := hidH (B19.out.trans (ha.below (by have := B19.out.size; omega) B19.out.size))
        have W_20 := hidH (W_19.out.apart ha (by omega))
        have G_20 := hidH hr
        clear ha hr
        clear B19 W_19 G_19
        go_wp2_with fail
        refine (held_any g 1 rs.length _ _ _ G_20.out.lies (by omega) (by omega) hlen).mono ?_; rintro e w21 ⟨rfl, hb⟩
        have B21 := hidH (B20.out.trans (hb.mono B20.out.size))
        have s21 := hb.size
        have W_21 := hidH (W_20.out.below hb)
        have G_21 := hidH (G_20.out.below hb)
        clear hb
        clear B20 W_20 G_20
        go_wp2_with fail
        refine (toInts_any _ zs0 _ ((HV0.out.below B21.out).mono (Nat.le_refl _) B21.out.size) hsm0).mono ?_; rintro e w22 ⟨t0_, rfl, hr, hb⟩
        have B22 := hidH (B21.out.trans (hb.mono B21.out.size))
        have s22 := hb.size
        have W_22 := hidH (W_21.out.below hb)
        have G_22 := hidH (G_21.out.below hb)
        have T0_22 := hidH hr
        clear hb hr
        clear B21 W_21 G_21
        go_wp2_with fail
        refine (toInts_any _ zs1 _ ((HV1.out.below B22.out).mono (Nat.le_refl _) B22.out.size) hsm1).mono ?_; rintro e w23 ⟨t1_, rfl, hr, hb⟩
        have B23 := hidH (B22.out.trans (hb.mono B22.out.size))
        have s23 := hb.size
        have W_23 := hidH (W_22.out.below hb)
        have G_23 := hidH (G_22.out.below hb)
        have T0_23 := hidH (T0_22.out.below hb)
        have T1_23 := hidH hr
        clear hb hr
        clear B22 W_22 G_22 T0_22
        go_wp2_with fail
        refine (toInts_any _ zs2 _ ((HV2.out.below B23.out).mono (Nat.le_refl _) B23.out.size) hsm2).mono ?_; rintro e w24 ⟨t2_, rfl, hr, hb⟩
        have B24 := hidH (B23.out.trans (hb.mono B23.out.size))
        have s24 := hb.size
        have W_24 := hidH (W_23.out.below hb)
        have G_24 := hidH (G_23.out.below hb)
        have T0_24 := hidH (T0_23.out.below hb)
        have T1_24 := hidH (T1_23.out.below hb)
        have T2_24 := hidH hr
        clear hb hr
        clear B23 W_23 G_23 T0_23 T1_23
        go_wp2_with fail
        refine (vote_any t0_ zs0 t1_ zs1 t2_ zs2 _ _ _ _ _ _ _ T0_24.out.lies T1_24.out.lies T2_24.out.lies).mono ?_; rintro e w25 ⟨h, rfl, hr, hb⟩
        have B25 := hidH (B24.out.trans (hb.mono B24.out.size))
        have s25 := hb.size
        have W_25 := hidH (W_24.out.below hb)
        have G_25 := hidH (G_24.out.below hb)
        have T0_25 := hidH (T0_24.out.below hb)
        have T1_25 := hidH (T1_24.out.below hb)
        have T2_25 := hidH (T2_24.out.below hb)
        have H_25 := hidH hr
        clear hb hr
        clear B24 W_24 G_24 T0_24 T1_24 T2_24
        rw [HRS.out] at H_25
        rw [HRB.out]
        go_wp2_with fail
        refine (eqInts_yes h u rs _ _ _ _ _ H_25.out.lies W_25.out.lies).mono ?_; rintro e w26 ⟨rfl, hb⟩
        have B26 := hidH (B25.out.trans (hb.mono B25.out.size))
        have s26 := hb.size
        have W_26 := hidH (W_25.out.below hb)
        have G_26 := hidH (G_25.out.below hb)
        have T0_26 := hidH (T0_25.out.below hb)
        have T1_26 := hidH (T1_25.out.below hb)
        have T2_26 := hidH (T2_25.out.below hb)
        have H_26 := hidH (H_25.out.below hb)
        clear hb
        clear B25 W_25 G_25 T0_25 T1_25 T2_25 H_25
        go_wp2_with fail
        refine (held_any g 1 rs.length _ _ _ G_26.out.lies (by omega) (by omega) hlen).mono ?_; rintro e w27 ⟨rfl, hb⟩
        have B27 := hidH (B26.out.trans (hb.mono B26.out.size))
        have s27 := hb.size
        have W_27 := hidH (W_26.out.below hb)
        have G_27 := hidH (G_26.out.below hb)
        have T0_27 := hidH (T0_26.out.below hb)
        have T1_27 := hidH (T1_26.out.below hb)
        have T2_27 := hidH (T2_26.out.below hb)
        have H_27 := hidH (H_26.out.below hb)
        clear hb
        clear B26 W_26 G_26 T0_26 T1_26 T2_26 H_26
        go_wp2
        go_ret
        exact ⟨rfl, B27.out⟩
set_option maxHeartbeats 1000000 in
theorem exFaultyOne (v0 : Value) (zs0 : List Int) (v1 : Value) (zs1 : List Int) (v2 : Value) (zs2 : List Int) (w : World) (hv0 : Lies w 0 w.heap.size v0 zs0) (hv1 : Lies w 0 w.heap.size v1 zs1) (hv2 : Lies w 0 w.heap.size v2 zs2) : Calls Try.prog 9 #[v0, v1, v2] w (Gives (.bool true) w) := by
  have HV0 := hidH hv0
  obtain ⟨a0, cap0, rfl, hlc0, hcm0, hnil0, hcell0⟩ := hv0
  clear hnil0 hcell0
  have HV1 := hidH hv1
  obtain ⟨a1, cap1, rfl, hlc1, hcm1, hnil1, hcell1⟩ := hv1
  clear hnil1 hcell1
  have HV2 := hidH hv2
  obtain ⟨a2, cap2, rfl, hlc2, hcm2, hnil2, hcell2⟩ := hv2
  clear hnil2 hcell2
  unfold maxLen at hcm0 hcm1 hcm2
  by_cases hbig0 : 1048576 < zs0.length
  · go_enter Try.func9, Try.ntmps9
    go_wp2
    go_ret
    exact ⟨rfl, Below.refl _ _⟩
  · have hsm0 : zs0.length ≤ 1048576 := by omega
    clear hbig0
    by_cases hbig1 : 1048576 < zs1.length
    · go_enter Try.func9, Try.ntmps9
      go_wp2
      go_ret
      exact ⟨rfl, Below.refl _ _⟩
    · have hsm1 : zs1.length ≤ 1048576 := by omega
      clear hbig1
      by_cases hbig2 : 1048576 < zs2.length
      · go_enter Try.func9, Try.ntmps9
        go_wp2
        go_ret
        exact ⟨rfl, Below.refl _ _⟩
      · have hsm2 : zs2.length ≤ 1048576 := by omega
        clear hbig2
        go_enter Try.func9, Try.ntmps9
        have B0 := hidH (Below.refl w.heap.size w)
        go_wp2_with fail
        refine (toInts_any _ zs0 _ ((HV0.out.below B0.out).mono (Nat.le_refl _) B0.out.size) hsm0).mono ?_; rintro e w1 ⟨t0, rfl, hr, hb⟩
        have B1 := hidH (B0.out.trans (hb.mono B0.out.size))
        have s1 := hb.size
        have T0_1 := hidH hr
        clear hb hr
        clear B0 
        go_wp2_with fail
        refine (toInts_any _ zs1 _ ((HV1.out.below B1.out).mono (Nat.le_refl _) B1.out.size) hsm1).mono ?_; rintro e w2 ⟨t1, rfl, hr, hb⟩
        have B2 := hidH (B1.out.trans (hb.mono B1.out.size))
        have s2 := hb.size
        have T0_2 := hidH (T0_1.out.below hb)
        have T1_2 := hidH hr
        clear hb hr
        clear B1 T0_1
        go_wp2_with fail
        refine (toInts_any _ zs2 _ ((HV2.out.below B2.out).mono (Nat.le_refl _) B2.out.size) hsm2).mono ?_; rintro e w3 ⟨t2, rfl, hr, hb⟩
        have B3 := hidH (B2.out.trans (hb.mono B2.out.size))
        have s3 := hb.size
        have T0_3 := hidH (T0_2.out.below hb)
        have T1_3 := hidH (T1_2.out.below hb)
        have T2_3 := hidH hr
        clear hb hr
        clear B2 T0_2 T1_2
        go_wp2_with fail
        refine (sFaulty_any t0 zs0 t1 zs1 t2 zs2 _ _ _ _ _ _ _ T0_3.out.lies T1_3.out.lies T2_3.out.lies).mono ?_; rintro e w4 ⟨rfl, hb⟩
        have B4 := hidH (B3.out.trans (hb.mono B3.out.size))
        have s4 := hb.size
        have T0_4 := hidH (T0_3.out.below hb)
        have T1_4 := hidH (T1_3.out.below hb)
        have T2_4 := hidH (T2_3.out.below hb)
        clear hb
        clear B3 T0_3 T1_3 T2_3
        clear T0_4
        clear T1_4
        clear T2_4
        go_wp2_with fail
        refine (toInts_any _ zs0 _ ((HV0.out.below B4.out).mono (Nat.le_refl _) B4.out.size) hsm0).mono ?_; rintro e w5 ⟨x0, rfl, hr, hb⟩
        have B5 := hidH (B4.out.trans (hb.mono B4.out.size))
        have s5 := hb.size
        have X0_5 := hidH hr
        clear hb hr
        clear B4 
        go_wp2_with fail
        refine (toInts_any _ zs1 _ ((HV1.out.below B5.out).mono (Nat.le_refl _) B5.out.size) hsm1).mono ?_; rintro e w6 ⟨x1, rfl, hr, hb⟩
        have B6 := hidH (B5.out.trans (hb.mono B5.out.size))
        have s6 := hb.size
        have X0_6 := hidH (X0_5.out.below hb)
        have X1_6 := hidH hr
        clear hb hr
        clear B5 X0_5
        go_wp2_with fail
        refine (toInts_any _ zs2 _ ((HV2.out.below B6.out).mono (Nat.le_refl _) B6.out.size) hsm2).mono ?_; rintro e w7 ⟨x2, rfl, hr, hb⟩
        have B7 := hidH (B6.out.trans (hb.mono B6.out.size))
        have s7 := hb.size
        have X0_7 := hidH (X0_6.out.below hb)
        have X1_7 := hidH (X1_6.out.below hb)
        have X2_7 := hidH hr
        clear hb hr
        clear B6 X0_6 X1_6
        go_wp2_with fail
        refine (faulty_any x0 zs0 x1 zs1 x2 zs2 _ _ _ _ _ _ _ X0_7.out.lies X1_7.out.lies X2_7.out.lies).mono ?_; rintro e w8 ⟨rfl, hb⟩
        have B8 := hidH (B7.out.trans (hb.mono B7.out.size))
        have s8 := hb.size
        have X0_8 := hidH (X0_7.out.below hb)
        have X1_8 := hidH (X1_7.out.below hb)
        have X2_8 := hidH (X2_7.out.below hb)
        clear hb
        clear B7 X0_7 X1_7 X2_7
        generalize faultA zs0 zs1 zs2 = r0 at *
        go_wp2_with fail
        refine (toInts_any _ zs0 _ ((HV0.out.below B8.out).mono (Nat.le_refl _) B8.out.size) hsm0).mono ?_; rintro e w9 ⟨y0, rfl, hr, hb⟩
        have B9 := hidH (B8.out.trans (hb.mono B8.out.size))
        have s9 := hb.size
        have X0_9 := hidH (X0_8.out.below hb)
        have X1_9 := hidH (X1_8.out.below hb)
        have X2_9 := hidH (X2_8.out.below hb)
        have Y0_9 := hidH hr
        clear hb hr
        clear B8 X0_8 X1_8 X2_8
        go_wp2_with fail
        refine (eqInts_yes x0 y0 zs0 _ _ _ _ _ X0_9.out.lies Y0_9.out.lies).mono ?_; rintro e w10 ⟨rfl, hb⟩
        have B10 := hidH (B9.out.trans (hb.mono B9.out.size))
        have s10 := hb.size
        have X0_10 := hidH (X0_9.out.below hb)
        have X1_10 := hidH (X1_9.out.below hb)
        have X2_10 := hidH (X2_9.out.below hb)
        have Y0_10 := hidH (Y0_9.out.below hb)
        clear hb
        clear B9 X0_9 X1_9 X2_9 Y0_9
        clear Y0_10
        go_wp2_with fail
        refine (toInts_any _ zs1 _ ((HV1.out.below B10.out).mono (Nat.le_refl _) B10.out.size) hsm1).mono ?_; rintro e w11 ⟨y1, rfl, hr, hb⟩
        have B11 := hidH (B10.out.trans (hb.mono B10.out.size))
        have s11 := hb.size
        have X0_11 := hidH (X0_10.out.below hb)
        have X1_11 := hidH (X1_10.out.below hb)
        have X2_11 := hidH (X2_10.out.below hb)
        have Y1_11 := hidH hr
        clear hb hr
        clear B10 X0_10 X1_10 X2_10
        go_wp2_with fail
        refine (eqInts_yes x1 y1 zs1 _ _ _ _ _ X1_11.out.lies Y1_11.out.lies).mono ?_; rintro e w12 ⟨rfl, hb⟩
        have B12 := hidH (B11.out.trans (hb.mono B11.out.size))
        have s12 := hb.size
        have X0_12 := hidH (X0_11.out.below hb)
        have X1_12 := hidH (X1_11.out.below hb)
        have X2_12 := hidH (X2_11.out.below hb)
        have Y1_12 := hidH (Y1_11.out.below hb)
        clear hb
        clear B11 X0_11 X1_11 X2_11 Y1_11
        clear Y1_12
        go_wp2_with fail
        refine (toInts_any _ zs2 _ ((HV2.out.below B12.out).mono (Nat.le_refl _) B12.out.size) hsm2).mono ?_; rintro e w13 ⟨y2, rfl, hr, hb⟩
        have B13 := hidH (B12.out.trans (hb.mono B12.out.size))
        have s13 := hb.size
        have X0_13 := hidH (X0_12.out.below hb)
        have X1_13 := hidH (X1_12.out.below hb)
        have X2_13 := hidH (X2_12.out.below hb)
        have Y2_13 := hidH hr
        clear hb hr
        clear B12 X0_12 X1_12 X2_12
        go_wp2_with fail
        refine (eqInts_yes x2 y2 zs2 _ _ _ _ _ X2_13.out.lies Y2_13.out.lies).mono ?_; rintro e w14 ⟨rfl, hb⟩
        have B14 := hidH (B13.out.trans (hb.mono B13.out.size))
        have s14 := hb.size
        have X0_14 := hidH (X0_13.out.below hb)
        have X1_14 := hidH (X1_13.out.below hb)
        have X2_14 := hidH (X2_13.out.below hb)
        have Y2_14 := hidH (Y2_13.out.below hb)
        clear hb
        clear B13 X0_13 X1_13 X2_13 Y2_13
        clear Y2_14
        go_wp2
        go_ret
        exact ⟨rfl, B14.out⟩
end Go.Proofs.Ytmgncchlghmmoaa
