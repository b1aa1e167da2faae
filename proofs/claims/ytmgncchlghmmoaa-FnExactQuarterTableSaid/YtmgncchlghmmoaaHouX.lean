/-
  The walks of the exact laws of QuarterSquare, QuarterTable, Interleave and DealTable. Condition: slices of at most 1048576 numbers.
-/
import Derived.Test.YtmgncchlghmmoaaHouB
import Derived.Test.YtmgncchlghmmoaaHouD
import Derived.Test.YtmgncchlghmmoaaHouF
import Derived.Test.YtmgncchlghmmoaaSl
namespace Go.Proofs.Ytmgncchlghmmoaa
set_option maxRecDepth 4000
open Go.RowKit
set_option maxHeartbeats 1000000 in
theorem exQuarterSquare (n0 : Int) (w : World)  : Calls Try.prog 5 #[.int .i64 n0] w (Gives (.bool true) w) := by
  go_enter Try.func5, Try.ntmps5
  have B0 := hidH (Below.refl w.heap.size w)
  go_wp2_with fail
  refine (sQs_any n0 _).mono ?_; rintro e w1 ⟨rfl, hb⟩
  have B1 := hidH (B0.out.trans (hb.mono B0.out.size))
  have s1 := hb.size
  clear hb
  clear B0 
  go_wp2_with fail
  refine (qs_any n0 _).mono ?_; rintro e w2 ⟨rfl, hb⟩
  have B2 := hidH (B1.out.trans (hb.mono B1.out.size))
  have s2 := hb.size
  clear hb
  clear B1 
  generalize qsA n0 = r0 at *
  go_wp2
  go_ret
  exact ⟨rfl, B2.out⟩
set_option maxHeartbeats 1000000 in
theorem exQuarterTable (n0 : Int) (w : World)  : Calls Try.prog 6 #[.int .i64 n0] w (Gives (.bool true) w) := by
  go_enter Try.func6, Try.ntmps6
  have B0 := hidH (Below.refl w.heap.size w)
  go_wp2_with fail
  refine (sQtab_any n0 _).mono ?_; rintro e w1 ⟨u, rfl, hr, hb⟩
  have B1 := hidH (B0.out.trans (hb.mono B0.out.size))
  have s1 := hb.size
  have W_1 := hidH hr
  clear hb hr
  clear B0 
  go_wp2_with fail
  refine (qtab_any n0 _).mono ?_; rintro e w2 ⟨g, rfl, hr, hb⟩
  have B2 := hidH (B1.out.trans (hb.mono B1.out.size))
  have s2 := hb.size
  have W_2 := hidH (W_1.out.below hb)
  have G_2 := hidH hr
  clear hb hr
  clear B1 W_1
  have hlen := qtA_len n0
  generalize hrs : qtA n0 = rs at *
  have HRS := hidH hrs
  clear hrs
  go_wp2_with fail
  refine (eqInts_yes g u rs _ _ _ _ _ G_2.out.lies W_2.out.lies).mono ?_; rintro e w3 ⟨rfl, hb⟩
  have B3 := hidH (B2.out.trans (hb.mono B2.out.size))
  have s3 := hb.size
  have W_3 := hidH (W_2.out.below hb)
  have G_3 := hidH (G_2.out.below hb)
  clear hb
  clear B2 W_2 G_2
  go_wp2_with fail
  refine (mark_any g rs 1 _ _ _ G_3.out (by omega) (by omega) hlen).mono ?_; rintro e w4 ⟨rfl, hr, ha⟩
  have s4 := ha.size
  have B4 := hidH (B3.out.trans (ha.below (by have := B3.out.size; omega) B3.out.size))
  have W_4 := hidH (W_3.out.apart ha (by omega))
  have G_4 := hidH hr
  clear ha hr
  clear B3 W_3 G_3
  go_wp2_with fail
  refine (held_any g 1 rs.length _ _ _ G_4.out.lies (by omega) (by omega) hlen).mono ?_; rintro e w5 ⟨rfl, hb⟩
  have B5 := hidH (B4.out.trans (hb.mono B4.out.size))
  have s5 := hb.size
  have W_5 := hidH (W_4.out.below hb)
  have G_5 := hidH (G_4.out.below hb)
  clear hb
  clear B4 W_4 G_4
  go_wp2_with fail
  refine (qtab_any n0 _).mono ?_; rintro e w6 ⟨h, rfl, hr, hb⟩
  have B6 := hidH (B5.out.trans (hb.mono B5.out.size))
  have s6 := hb.size
  have W_6 := hidH (W_5.out.below hb)
  have G_6 := hidH (G_5.out.below hb)
  have H_6 := hidH hr
  clear hb hr
  clear B5 W_5 G_5
  rw [HRS.out] at H_6
  go_wp2_with fail
  refine (eqInts_yes h u rs _ _ _ _ _ H_6.out.lies W_6.out.lies).mono ?_; rintro e w7 ⟨rfl, hb⟩
  have B7 := hidH (B6.out.trans (hb.mono B6.out.size))
  have s7 := hb.size
  have W_7 := hidH (W_6.out.below hb)
  have G_7 := hidH (G_6.out.below hb)
  have H_7 := hidH (H_6.out.below hb)
  clear hb
  clear B6 W_6 G_6 H_6
  go_wp2_with fail
  refine (held_any g 1 rs.length _ _ _ G_7.out.lies (by omega) (by omega) hlen).mono ?_; rintro e w8 ⟨rfl, hb⟩
  have B8 := hidH (B7.out.trans (hb.mono B7.out.size))
  have s8 := hb.size
  have W_8 := hidH (W_7.out.below hb)
  have G_8 := hidH (G_7.out.below hb)
  have H_8 := hidH (H_7.out.below hb)
  clear hb
  clear B7 W_7 G_7 H_7
  go_wp2
  go_ret
  exact ⟨rfl, B8.out⟩
set_option maxHeartbeats 1000000 in
theorem exInterleave (v0 : Value) (zs0 : List Int) (v1 : Value) (zs1 : List Int) (w : World) (hv0 : Lies w 0 w.heap.size v0 zs0) (hv1 : Lies w 0 w.heap.size v1 zs1) : Calls Try.prog 3 #[v0, v1] w (Gives (.bool true) w) := by
  have HV0 := hidH hv0
  obtain ⟨a0, cap0, rfl, hlc0, hcm0, hnil0, hcell0⟩ := hv0
  clear hnil0 hcell0
  have HV1 := hidH hv1
  obtain ⟨a1, cap1, rfl, hlc1, hcm1, hnil1, hcell1⟩ := hv1
  clear hnil1 hcell1
  unfold maxLen at hcm0 hcm1
  by_cases hbig0 : 1048576 < zs0.length
  · go_enter Try.func3, Try.ntmps3
    go_wp2
    go_ret
    exact ⟨rfl, Below.refl _ _⟩
  · have hsm0 : zs0.length ≤ 1048576 := by omega
    clear hbig0
    by_cases hbig1 : 1048576 < zs1.length
    · go_enter Try.func3, Try.ntmps3
      go_wp2
      go_ret
      exact ⟨rfl, Below.refl _ _⟩
    · have hsm1 : zs1.length ≤ 1048576 := by omega
      clear hbig1
      go_enter Try.func3, Try.ntmps3
      have B0 := hidH (Below.refl w.heap.size w)
      go_wp2_with fail
      refine (toInts_any _ zs0 _ ((HV0.out.below B0.out).mono (Nat.le_refl _) B0.out.size) hsm0).mono ?_; rintro e w1 ⟨t0, rfl, hr, hb⟩
      have B1 := hidH (B0.out.trans (hb.mono B0.out.size))
      have s1 := hb.size
      have T0_1 := hidH hr
      clear hb hr
      clear B0 
      go_wp2_with fail
      refine (toInts_any _ zs1 _ ((HV1.out.below B1.out).mono (Nat.le_refl _) B1.out.size) hsm1).mono ?_; rintro e w2 ⟨t1, rfl, hr, hb⟩
      have B2 := hidH (B1.out.trans (hb.mono B1.out.size))
      have s2 := hb.size
      have T0_2 := hidH (T0_1.out.below hb)
      have T1_2 := hidH hr
      clear hb hr
      clear B1 T0_1
      go_wp2_with fail
      refine (sIlv_any t0 zs0 t1 zs1 _ _ _ _ _ T0_2.out.lies T1_2.out.lies hsm0 hsm1).mono ?_; rintro e w3 ⟨u, rfl, hr, hb⟩
      have B3 := hidH (B2.out.trans (hb.mono B2.out.size))
      have s3 := hb.size
      have T0_3 := hidH (T0_2.out.below hb)
      have T1_3 := hidH (T1_2.out.below hb)
      have W_3 := hidH hr
      clear hb hr
      clear B2 T0_2 T1_2
      clear T0_3
      clear T1_3
      go_wp2_with fail
      refine (toInts_any _ zs0 _ ((HV0.out.below B3.out).mono (Nat.le_refl _) B3.out.size) hsm0).mono ?_; rintro e w4 ⟨x0, rfl, hr, hb⟩
      have B4 := hidH (B3.out.trans (hb.mono B3.out.size))
      have s4 := hb.size
      have W_4 := hidH (W_3.out.below hb)
      have X0_4 := hidH hr
      clear hb hr
      clear B3 W_3
      go_wp2_with fail
      refine (toInts_any _ zs1 _ ((HV1.out.below B4.out).mono (Nat.le_refl _) B4.out.size) hsm1).mono ?_; rintro e w5 ⟨x1, rfl, hr, hb⟩
      have B5 := hidH (B4.out.trans (hb.mono B4.out.size))
      have s5 := hb.size
      have W_5 := hidH (W_4.out.below hb)
      have X0_5 := hidH (X0_4.out.below hb)
      have X1_5 := hidH hr
      clear hb hr
      clear B4 W_4 X0_4
      go_wp2_with fail
      refine (ilv_any x0 zs0 x1 zs1 _ _ _ _ _ X0_5.out.lies X1_5.out.lies hsm0 hsm1).mono ?_; rintro e w6 ⟨g, rfl, hr, hb⟩
      have B6 := hidH (B5.out.trans (hb.mono B5.out.size))
      have s6 := hb.size
      have W_6 := hidH (W_5.out.below hb)
      have X0_6 := hidH (X0_5.out.below hb)
      have X1_6 := hidH (X1_5.out.below hb)
      have G_6 := hidH hr
      clear hb hr
      clear B5 W_5 X0_5 X1_5
      have hlen := ilA_len zs0 zs1
      generalize hrs : ilA zs0 zs1 = rs at *
      have HRS := hidH hrs
      clear hrs
      generalize hrb : ilOk zs0 zs1 = rb at *
      have HRB := hidH hrb
      clear hrb
      go_wp2_with fail
      refine (eqInts_yes g u rs _ _ _ _ _ G_6.out.lies W_6.out.lies).mono ?_; rintro e w7 ⟨rfl, hb⟩
      have B7 := hidH (B6.out.trans (hb.mono B6.out.size))
      have s7 := hb.size
      have W_7 := hidH (W_6.out.below hb)
      have X0_7 := hidH (X0_6.out.below hb)
      have X1_7 := hidH (X1_6.out.below hb)
      have G_7 := hidH (G_6.out.below hb)
      clear hb
      clear B6 W_6 X0_6 X1_6 G_6
      go_wp2_with fail
      refine (toInts_any _ zs0 _ ((HV0.out.below B7.out).mono (Nat.le_refl _) B7.out.size) hsm0).mono ?_; rintro e w8 ⟨y0, rfl, hr, hb⟩
      have B8 := hidH (B7.out.trans (hb.mono B7.out.size))
      have s8 := hb.size
      have W_8 := hidH (W_7.out.below hb)
      have X0_8 := hidH (X0_7.out.below hb)
      have X1_8 := hidH (X1_7.out.below hb)
      have G_8 := hidH (G_7.out.below hb)
      have Y0_8 := hidH hr
      clear hb hr
      clear B7 W_7 X0_7 X1_7 G_7
      go_wp2_with fail
      refine (eqInts_yes x0 y0 zs0 _ _ _ _ _ X0_8.out.lies Y0_8.out.lies).mono ?_; rintro e w9 ⟨rfl, hb⟩
      have B9 := hidH (B8.out.trans (hb.mono B8.out.size))
      have s9 := hb.size
      have W_9 := hidH (W_8.out.below hb)
      have X0_9 := hidH (X0_8.out.below hb)
      have X1_9 := hidH (X1_8.out.below hb)
      have G_9 := hidH (G_8.out.below hb)
      have Y0_9 := hidH (Y0_8.out.below hb)
      clear hb
      clear B8 W_8 X0_8 X1_8 G_8 Y0_8
      clear Y0_9
      go_wp2_with fail
      refine (toInts_any _ zs1 _ ((HV1.out.below B9.out).mono (Nat.le_refl _) B9.out.size) hsm1).mono ?_; rintro e w10 ⟨y1, rfl, hr, hb⟩
      have B10 := hidH (B9.out.trans (hb.mono B9.out.size))
      have s10 := hb.size
      have W_10 := hidH (W_9.out.below hb)
      have X0_10 := hidH (X0_9.out.below hb)
      have X1_10 := hidH (X1_9.out.below hb)
      have G_10 := hidH (G_9.out.below hb)
      have Y1_10 := hidH hr
      clear hb hr
      clear B9 W_9 X0_9 X1_9 G_9
      go_wp2_with fail
      refine (eqInts_yes x1 y1 zs1 _ _ _ _ _ X1_10.out.lies Y1_10.out.lies).mono ?_; rintro e w11 ⟨rfl, hb⟩
      have B11 := hidH (B10.out.trans (hb.mono B10.out.size))
      have s11 := hb.size
      have W_11 := hidH (W_10.out.below hb)
      have X0_11 := hidH (X0_10.out.below hb)
      have X1_11 := hidH (X1_10.out.below hb)
      have G_11 := hidH (G_10.out.below hb)
      have Y1_11 := hidH (Y1_10.out.below hb)
      clear hb
      clear B10 W_10 X0_10 X1_10 G_10 Y1_10
      clear Y1_11
      go_wp2_with fail
      refine (mark_any x0 zs0 (1) _ _ _ X0_11.out (by omega) (by omega) hsm0).mono ?_; rintro e w12 ⟨rfl, hr, ha⟩
      have s12 := ha.size
      have B12 := hidH (B11.out.trans (ha.below (by have := B11.out.size; omega) B11.out.size))
      have W_12 := hidH (W_11.out.apart ha (by omega))
      have X1_12 := hidH (X1_11.out.apart ha (by omega))
      have G_12 := hidH (G_11.out.apart ha (by omega))
      have X0_12 := hidH hr
      clear ha hr
      clear B11 W_11 X0_11 X1_11 G_11
      go_wp2_with fail
      refine (mark_any x1 zs1 (1 + (zs0.length : Int)) _ _ _ X1_12.out (by omega) (by omega) hsm1).mono ?_; rintro e w13 ⟨rfl, hr, ha⟩
      have s13 := ha.size
      have B13 := hidH (B12.out.trans (ha.below (by have := B12.out.size; omega) B12.out.size))
      have W_13 := hidH (W_12.out.apart ha (by omega))
      have X0_13 := hidH (X0_12.out.apart ha (by omega))
      have G_13 := hidH (G_12.out.apart ha (by omega))
      have X1_13 := hidH hr
      clear ha hr
      clear B12 W_12 X0_12 X1_12 G_12
      clear X0_13
      clear X1_13
      go_wp2_with fail
      refine (eqInts_yes g u rs _ _ _ _ _ G_13.out.lies W_13.out.lies).mono ?_; rintro e w14 ⟨rfl, hb⟩
      have B14 := hidH (B13.out.trans (hb.mono B13.out.size))
      have s14 := hb.size
      have W_14 := hidH (W_13.out.below hb)
      have G_14 := hidH (G_13.out.below hb)
      clear hb
      clear B13 W_13 G_13
      go_wp2_with fail
      refine (mark_any g rs 1 _ _ _ G_14.out (by omega) (by omega) hlen).mono ?_; rintro e w15 ⟨rfl, hr, ha⟩
      have s15 := ha.size
      have B15 := hidH (B14.out.trans (ha.below (by have := B14.out.size; omega) B14.out.size))
      have W_15 := hidH (W_14.out.apart ha (by omega))
      have G_15 := hidH hr
      clear ha hr
      clear B14 W_14 G_14
      go_wp2_with fail
      refine (held_any g 1 rs.length _ _ _ G_15.out.lies (by omega) (by omega) hlen).mono ?_; rintro e w16 ⟨rfl, hb⟩
      have B16 := hidH (B15.out.trans (hb.mono B15.out.size))
      have s16 := hb.size
      have W_16 := hidH (W_15.out.below hb)
      have G_16 := hidH (G_15.out.below hb)
      clear hb
      clear B15 W_15 G_15
      go_wp2_with fail
      refine (toInts_any _ zs0 _ ((HV0.out.below B16.out).mono (Nat.le_refl _) B16.out.size) hsm0).mono ?_; rintro e w17 ⟨t0_, rfl, hr, hb⟩
      have B17 := hidH (B16.out.trans (hb.mono B16.out.size))
      have s17 := hb.size
      have W_17 := hidH (W_16.out.below hb)
      have G_17 := hidH (G_16.out.below hb)
      have T0_17 := hidH hr
      clear hb hr
      clear B16 W_16 G_16
      go_wp2_with fail
      refine (toInts_any _ zs1 _ ((HV1.out.below B17.out).mono (Nat.le_refl _) B17.out.size) hsm1).mono ?_; rintro e w18 ⟨t1_, rfl, hr, hb⟩
      have B18 := hidH (B17.out.trans (hb.mono B17.out.size))
      have s18 := hb.size
      have W_18 := hidH (W_17.out.below hb)
      have G_18 := hidH (G_17.out.below hb)
      have T0_18 := hidH (T0_17.out.below hb)
      have T1_18 := hidH hr
      clear hb hr
      clear B17 W_17 G_17 T0_17
      go_wp2_with fail
      refine (ilv_any t0_ zs0 t1_ zs1 _ _ _ _ _ T0_18.out.lies T1_18.out.lies hsm0 hsm1).mono ?_; rintro e w19 ⟨h, rfl, hr, hb⟩
      have B19 := hidH (B18.out.trans (hb.mono B18.out.size))
      have s19 := hb.size
      have W_19 := hidH (W_18.out.below hb)
      have G_19 := hidH (G_18.out.below hb)
      have T0_19 := hidH (T0_18.out.below hb)
      have T1_19 := hidH (T1_18.out.below hb)
      have H_19 := hidH hr
      clear hb hr
      clear B18 W_18 G_18 T0_18 T1_18
      rw [HRS.out] at H_19
      rw [HRB.out]
      go_wp2_with fail
      refine (eqInts_yes h u rs _ _ _ _ _ H_19.out.lies W_19.out.lies).mono ?_; rintro e w20 ⟨rfl, hb⟩
      have B20 := hidH (B19.out.trans (hb.mono B19.out.size))
      have s20 := hb.size
      have W_20 := hidH (W_19.out.below hb)
      have G_20 := hidH (G_19.out.below hb)
      have T0_20 := hidH (T0_19.out.below hb)
      have T1_20 := hidH (T1_19.out.below hb)
      have H_20 := hidH (H_19.out.below hb)
      clear hb
      clear B19 W_19 G_19 T0_19 T1_19 H_19
      go_wp2_with fail
      refine (held_any g 1 rs.length _ _ _ G_20.out.lies (by omega) (by omega) hlen).mono ?_; rintro e w21 ⟨rfl, hb⟩
      have B21 := hidH (B20.out.trans (hb.mono B20.out.size))
      have s21 := hb.size
      have W_21 := hidH (W_20.out.below hb)
      have G_21 := hidH (G_20.out.below hb)
      have T0_21 := hidH (T0_20.out.below hb)
      have T1_21 := hidH (T1_20.out.below hb)
      have H_21 := hidH (H_20.out.below hb)
      clear hb
      clear B20 W_20 G_20 T0_20 T1_20 H_20
      go_wp2
      go_ret
      exact ⟨rfl, B21.out⟩
set_option maxHeartbeats 1000000 in
theorem exDealTable (v0 : Value) (zs0 : List Int) (w : World) (hv0 : Lies w 0 w.heap.size v0 zs0) : Calls Try.prog 4 #[v0] w (Gives (.bool true) w) := by
  have HV0 := hidH hv0
  obtain ⟨a0, cap0, rfl, hlc0, hcm0, hnil0, hcell0⟩ := hv0
  clear hnil0 hcell0
  unfold maxLen at hcm0
  by_cases hbig0 : 1048576 < zs0.length
  · go_enter Try.func4, Try.ntmps4
    go_wp2
    go_ret
    exact ⟨rfl, Below.refl _ _⟩
  · have hsm0 : zs0.length ≤ 1048576 := by omega
    clear hbig0
    go_enter Try.func4, Try.ntmps4
    have B0 := hidH (Below.refl w.heap.size w)
    go_wp2_with fail
    refine (toInts_any _ zs0 _ ((HV0.out.below B0.out).mono (Nat.le_refl _) B0.out.size) hsm0).mono ?_; rintro e w1 ⟨t0, rfl, hr, hb⟩
    have B1 := hidH (B0.out.trans (hb.mono B0.out.size))
    have s1 := hb.size
    have T0_1 := hidH hr
    clear hb hr
    clear B0 
    go_wp2_with fail
    refine (sDeal_any t0 zs0 _ _ _ T0_1.out.lies).mono ?_; rintro e w2 ⟨u0, u1, rfl, hrr, hb⟩
    obtain ⟨lW0, hW0, lW1, hW1, hr0, hr1, qW0, qW1, qW2, qW3, qW4⟩ := hrr
    have B2 := hidH (B1.out.trans (hb.mono B1.out.size))
    have s2 := hb.size
    have T0_2 := hidH (T0_1.out.below hb)
    have W0_2 := hidH hr0
    have W1_2 := hidH hr1
    clear hb hr0 hr1
    clear B1 T0_1
    clear T0_2
    go_wp2_with fail
    refine (toInts_any _ zs0 _ ((HV0.out.below B2.out).mono (Nat.le_refl _) B2.out.size) hsm0).mono ?_; rintro e w3 ⟨x0, rfl, hr, hb⟩
    have B3 := hidH (B2.out.trans (hb.mono B2.out.size))
    have s3 := hb.size
    have W0_3 := hidH (W0_2.out.below hb)
    have W1_3 := hidH (W1_2.out.below hb)
    have X0_3 := hidH hr
    clear hb hr
    clear B2 W0_2 W1_2
    go_wp2_with fail
    refine (deal_any x0 zs0 _ _ _ X0_3.out.lies).mono ?_; rintro e w4 ⟨g0, g1, rfl, hrr, hb⟩
    obtain ⟨lG0, hG0, lG1, hG1, hr0, hr1, qG0, qG1, qG2, qG3, qG4⟩ := hrr
    have B4 := hidH (B3.out.trans (hb.mono B3.out.size))
    have s4 := hb.size
    have W0_4 := hidH (W0_3.out.below hb)
    have W1_4 := hidH (W1_3.out.below hb)
    have X0_4 := hidH (X0_3.out.below hb)
    have G0_4 := hidH hr0
    have G1_4 := hidH hr1
    clear hb hr0 hr1
    clear B3 W0_3 W1_3 X0_3
    have hlen0 := dlE_len zs0
    generalize hrs0 : dlE zs0 = rs0 at *
    have HRS0 := hidH hrs0
    clear hrs0
    have hlen1 := dlO_len zs0
    generalize hrs1 : dlO zs0 = rs1 at *
    have HRS1 := hidH hrs1
    clear hrs1
    go_wp2_with fail
    refine (eqInts_yes g0 u0 rs0 _ _ _ _ _ G0_4.out.lies W0_4.out.lies).mono ?_; rintro e w5 ⟨rfl, hb⟩
    have B5 := hidH (B4.out.trans (hb.mono B4.out.size))
    have s5 := hb.size
    have W0_5 := hidH (W0_4.out.below hb)
    have W1_5 := hidH (W1_4.out.below hb)
    have X0_5 := hidH (X0_4.out.below hb)
    have G0_5 := hidH (G0_4.out.below hb)
    have G1_5 := hidH (G1_4.out.below hb)
    clear hb
    clear B4 W0_4 W1_4 X0_4 G0_4 G1_4
    go_wp2_with fail
    refine (eqInts_yes g1 u1 rs1 _ _ _ _ _ G1_5.out.lies W1_5.out.lies).mono ?_; rintro e w6 ⟨rfl, hb⟩
    have B6 := hidH (B5.out.trans (hb.mono B5.out.size))
    have s6 := hb.size
    have W0_6 := hidH (W0_5.out.below hb)
    have W1_6 := hidH (W1_5.out.below hb)
    have X0_6 := hidH (X0_5.out.below hb)
    have G0_6 := hidH (G0_5.out.below hb)
    have G1_6 := hidH (G1_5.out.below hb)
    clear hb
    clear B5 W0_5 W1_5 X0_5 G0_5 G1_5
    go_wp2_with fail
    refine (toInts_any _ zs0 _ ((HV0.out.below B6.out).mono (Nat.le_refl _) B6.out.size) hsm0).mono ?_; rintro e w7 ⟨y0, rfl, hr, hb⟩
    have B7 := hidH (B6.out.trans (hb.mono B6.out.size))
    have s7 := hb.size
    have W0_7 := hidH (W0_6.out.below hb)
    have W1_7 := hidH (W1_6.out.below hb)
    have X0_7 := hidH (X0_6.out.below hb)
    have G0_7 := hidH (G0_6.out.below hb)
    have G1_7 := hidH (G1_6.out.below hb)
    have Y0_7 := hidH hr
    clear hb hr
    clear B6 W0_6 W1_6 X0_6 G0_6 G1_6
    go_wp2_with fail
    refine (eqInts_yes x0 y0 zs0 _ _ _ _ _ X0_7.out.lies Y0_7.out.lies).mono ?_; rintro e w8 ⟨rfl, hb⟩
    have B8 := hidH (B7.out.trans (hb.mono B7.out.size))
    have s8 := hb.size
    have W0_8 := hidH (W0_7.out.below hb)
    have W1_8 := hidH (W1_7.out.below hb)
    have X0_8 := hidH (X0_7.out.below hb)
    have G0_8 := hidH (G0_7.out.below hb)
    have G1_8 := hidH (G1_7.out.below hb)
    have Y0_8 := hidH (Y0_7.out.below hb)
    clear hb
    clear B7 W0_7 W1_7 X0_7 G0_7 G1_7 Y0_7
    clear Y0_8
    go_wp2_with fail
    refine (mark_any x0 zs0 (1) _ _ _ X0_8.out (by omega) (by omega) hsm0).mono ?_; rintro e w9 ⟨rfl, hr, ha⟩
    have s9 := ha.size
    have B9 := hidH (B8.out.trans (ha.below (by have := B8.out.size; omega) B8.out.size))
    have W0_9 := hidH (W0_8.out.apart ha (by omega))
    have W1_9 := hidH (W1_8.out.apart ha (by omega))
    have G0_9 := hidH (G0_8.out.apart ha (by omega))
    have G1_9 := hidH (G1_8.out.apart ha (by omega))
    have X0_9 := hidH hr
    clear ha hr
    clear B8 W0_8 W1_8 X0_8 G0_8 G1_8
    clear X0_9
    go_wp2_with fail
    refine (eqInts_yes g0 u0 rs0 _ _ _ _ _ G0_9.out.lies W0_9.out.lies).mono ?_; rintro e w10 ⟨rfl, hb⟩
    have B10 := hidH (B9.out.trans (hb.mono B9.out.size))
    have s10 := hb.size
    have W0_10 := hidH (W0_9.out.below hb)
    have W1_10 := hidH (W1_9.out.below hb)
    have G0_10 := hidH (G0_9.out.below hb)
    have G1_10 := hidH (G1_9.out.below hb)
    clear hb
    clear B9 W0_9 W1_9 G0_9 G1_9
    go_wp2_with fail
    refine (eqInts_yes g1 u1 rs1 _ _ _ _ _ G1_10.out.lies W1_10.out.lies).mono ?_; rintro e w11 ⟨rfl, hb⟩
    have B11 := hidH (B10.out.trans (hb.mono B10.out.size))
    have s11 := hb.size
    have W0_11 := hidH (W0_10.out.below hb)
    have W1_11 := hidH (W1_10.out.below hb)
    have G0_11 := hidH (G0_10.out.below hb)
    have G1_11 := hidH (G1_10.out.below hb)
    clear hb
    clear B10 W0_10 W1_10 G0_10 G1_10
    go_wp2_with fail
    refine (mark_any g0 rs0 1 _ _ _ G0_11.out (by omega) (by omega) hlen0).mono ?_; rintro e w12 ⟨rfl, hr, ha⟩
    have s12 := ha.size
    have B12 := hidH (B11.out.trans (ha.below (by have := B11.out.size; omega) B11.out.size))
    have W0_12 := hidH (W0_11.out.apart ha (by omega))
    have W1_12 := hidH (W1_11.out.apart ha (by omega))
    have G1_12 := hidH (G1_11.out.apart ha (by omega))
    have G0_12 := hidH hr
    clear ha hr
    clear B11 W0_11 W1_11 G0_11 G1_11
    go_wp2_with fail
    refine (mark_any g1 rs1 (1 + (rs0.length : Int)) _ _ _ G1_12.out (by omega) (by omega) hlen1).mono ?_; rintro e w13 ⟨rfl, hr, ha⟩
    have s13 := ha.size
    have B13 := hidH (B12.out.trans (ha.below (by have := B12.out.size; omega) B12.out.size))
    have W0_13 := hidH (W0_12.out.apart ha (by omega))
    have W1_13 := hidH (W1_12.out.apart ha (by omega))
    have G0_13 := hidH (G0_12.out.apart ha (by omega))
    have G1_13 := hidH hr
    clear ha hr
    clear B12 W0_12 W1_12 G0_12 G1_12
    go_wp2_with fail
    refine (held_any g0 1 rs0.length _ _ _ G0_13.out.lies (by omega) (by omega) hlen0).mono ?_; rintro e w14 ⟨rfl, hb⟩
    have B14 := hidH (B13.out.trans (hb.mono B13.out.size))
    have s14 := hb.size
    have W0_14 := hidH (W0_13.out.below hb)
    have W1_14 := hidH (W1_13.out.below hb)
    have G0_14 := hidH (G0_13.out.below hb)
    have G1_14 := hidH (G1_13.out.below hb)
    clear hb
    clear B13 W0_13 W1_13 G0_13 G1_13
    go_wp2_with fail
    refine (held_any g1 (1 + (rs0.length : Int)) rs1.length _ _ _ G1_14.out.lies (by omega) (by omega) hlen1).mono ?_; rintro e w15 ⟨rfl, hb⟩
    have B15 := hidH (B14.out.trans (hb.mono B14.out.size))
    have s15 := hb.size
    have W0_15 := hidH (W0_14.out.below hb)
    have W1_15 := hidH (W1_14.out.below hb)
    have G0_15 := hidH (G0_14.out.below hb)
    have G1_15 := hidH (G1_14.out.below hb)
    clear hb
    clear B14 W0_14 W1_14 G0_14 G1_14
    go_wp2_with fail
    refine (toInts_any _ zs0 _ ((HV0.out.below B15.out).mono (Nat.le_refl _) B15.out.size) hsm0).mono ?_; rintro e w16 ⟨t0_, rfl, hr, hb⟩
    have B16 := hidH (B15.out.trans (hb.mono B15.out.size))
    have s16 := hb.size
    have W0_16 := hidH (W0_15.out.below hb)
    have W1_16 := hidH (W1_15.out.below hb)
    have G0_16 := hidH (G0_15.out.below hb)
    have G1_16 := hidH (G1_15.out.below hb)
    have T0_16 := hidH hr
    clear hb hr
    clear B15 W0_15 W1_15 G0_15 G1_15
    go_wp2_with fail
    refine (deal_any t0_ zs0 _ _ _ T0_16.out.lies).mono ?_; rintro e w17 ⟨h0, h1, rfl, hrr, hb⟩
    obtain ⟨lH0, hH0, lH1, hH1, hr0, hr1, qH0, qH1, qH2, qH3, qH4⟩ := hrr
    have B17 := hidH (B16.out.trans (hb.mono B16.out.size))
    have s17 := hb.size
    have W0_17 := hidH (W0_16.out.below hb)
    have W1_17 := hidH (W1_16.out.below hb)
    have G0_17 := hidH (G0_16.out.below hb)
    have G1_17 := hidH (G1_16.out.below hb)
    have T0_17 := hidH (T0_16.out.below hb)
    have H0_17 := hidH hr0
    have H1_17 := hidH hr1
    clear hb hr0 hr1
    clear B16 W0_16 W1_16 G0_16 G1_16 T0_16
    rw [HRS0.out] at H0_17
    rw [HRS1.out] at H1_17
    go_wp2_with fail
    refine (eqInts_yes h0 u0 rs0 _ _ _ _ _ H0_17.out.lies W0_17.out.lies).mono ?_; rintro e w18 ⟨rfl, hb⟩
    have B18 := hidH (B17.out.trans (hb.mono B17.out.size))
    have s18 := hb.size
    have W0_18 := hidH (W0_17.out.below hb)
    have W1_18 := hidH (W1_17.out.below hb)
    have G0_18 := hidH (G0_17.out.below hb)
    have G1_18 := hidH (G1_17.out.below hb)
    have T0_18 := hidH (T0_17.out.below hb)
    have H0_18 := hidH (H0_17.out.below hb)
    have H1_18 := hidH (H1_17.out.below hb)
    clear hb
    clear B17 W0_17 W1_17 G0_17 G1_17 T0_17 H0_17 H1_17
    go_wp2_with fail
    refine (eqInts_yes h1 u1 rs1 _ _ _ _ _ H1_18.out.lies W1_18.out.lies).mono ?_; rintro e w19 ⟨rfl, hb⟩
    have B19 := hidH (B18.out.trans (hb.mono B18.out.size))
    have s19 := hb.size
    have W0_19 := hidH (W0_18.out.below hb)
    have W1_19 := hidH (W1_18.out.below hb)
    have G0_19 := hidH (G0_18.out.below hb)
    have G1_19 := hidH (G1_18.out.below hb)
    have T0_19 := hidH (T0_18.out.below hb)
    have H0_19 := hidH (H0_18.out.below hb)
    have H1_19 := hidH (H1_18.out.below hb)
    clear hb
    clear B18 W0_18 W1_18 G0_18 G1_18 T0_18 H0_18 H1_18
    go_wp2_with fail
    refine (held_any g0 1 rs0.length _ _ _ G0_19.out.lies (by omega) (by omega) hlen0).mono ?_; rintro e w20 ⟨rfl, hb⟩
    have B20 := hidH (B19.out.trans (hb.mono B19.out.size))
    have s20 := hb.size
    have W0_20 := hidH (W0_19.out.below hb)
    have W1_20 := hidH (W1_19.out.below hb)
    have G0_20 := hidH (G0_19.out.below hb)
    have G1_20 := hidH (G1_19.out.below hb)
    have T0_20 := hidH (T0_19.out.below hb)
    have H0_20 := hidH (H0_19.out.below hb)
    have H1_20 := hidH (H1_19.out.below hb)
    clear hb
    clear B19 W0_19 W1_19 G0_19 G1_19 T0_19 H0_19 H1_19
    go_wp2_with fail
    refine (held_any g1 (1 + (rs0.length : Int)) rs1.length _ _ _ G1_20.out.lies (by omega) (by omega) hlen1).mono ?_; rintro e w21 ⟨rfl, hb⟩
    have B21 := hidH (B20.out.trans (hb.mono B20.out.size))
    have s21 := hb.size
    have W0_21 := hidH (W0_20.out.below hb)
    have W1_21 := hidH (W1_20.out.below hb)
    have G0_21 := hidH (G0_20.out.below hb)
    have G1_21 := hidH (G1_20.out.below hb)
    have T0_21 := hidH (T0_20.out.below hb)
    have H0_21 := hidH (H0_20.out.below hb)
    have H1_21 := hidH (H1_20.out.below hb)
    clear hb
    clear B20 W0_20 W1_20 G0_20 G1_20 T0_20 H0_20 H1_20
    go_wp2
    go_ret
    exact ⟨rfl, B21.out⟩
end Go.Proofs.Ytmgncchlghmmoaa
