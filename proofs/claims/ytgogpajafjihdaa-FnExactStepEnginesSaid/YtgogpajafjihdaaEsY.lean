/-
  The walk of the exact law of StepEngines. Condition: slices of at most 1048576 numbers.
-/
import Derived.Test.YtgogpajafjihdaaEsF
import Derived.Test.YtgogpajafjihdaaSl
namespace Go.Proofs.Ytgogpajafjihdaa
set_option maxRecDepth 4000
open Go.RowKit
set_option maxHeartbeats 1600000 in
theorem exStepEngines (v0 : Value) (zs0 : List Int) (n1 : Int) (n2 : Int) (n3 : Int) (w : World) (hv0 : Lies w 0 w.heap.size v0 zs0) : Calls Try.prog 3 #[v0, .int .i64 n1, .int .i64 n2, .int .i64 n3] w (Gives (.bool true) w) := by
  have HV0 := hidH hv0
  obtain ⟨a0, cap0, rfl, hlc0, hcm0, hnil0, hcell0⟩ := hv0
  clear hnil0 hcell0
  unfold maxLen at hcm0
  by_cases hbig0 : 1048576 < zs0.length
  · go_enter Try.func3, Try.ntmps3
    go_wp2
    go_ret
    exact ⟨rfl, Below.refl _ _⟩
  have hsm0 : zs0.length ≤ 1048576 := by omega
  clear hbig0
  go_enter Try.func3, Try.ntmps3
  have B0 := hidH (Below.refl w.heap.size w)
  go_wp2_with fail
  refine (toInts_any _ zs0 _ ((HV0.out.below B0.out).mono (Nat.le_refl _) B0.out.size) hsm0).mono ?_; rintro e w1 ⟨t0, rfl, hr, hb⟩
  have B1 := hidH (bThen B0.out hb)
  have s1 := hb.size
  have T0_1 := hidH hr
  clear hb B0  hr
  go_wp2_with fail
  refine (sStepEng_any t0 zs0 n1 n2 n3 _ _ _ T0_1.out.lies).mono ?_; rintro e w2 ⟨u, rfl, hr, hb⟩
  have B2 := hidH (bThen B1.out hb)
  have s2 := hb.size
  have T0_2 := hidH (T0_1.out.below hb)
  have W_2 := hidH hr
  clear hb B1 T0_1 hr
  clear T0_2
  go_wp2_with fail
  refine (toInts_any _ zs0 _ ((HV0.out.below B2.out).mono (Nat.le_refl _) B2.out.size) hsm0).mono ?_; rintro e w3 ⟨x0, rfl, hr, hb⟩
  have B3 := hidH (bThen B2.out hb)
  have s3 := hb.size
  have W_3 := hidH (W_2.out.below hb)
  have X0_3 := hidH hr
  clear hb B2 W_2 hr
  go_wp2_with fail
  refine (stepEng_any x0 zs0 n1 n2 n3 _ _ _ X0_3.out.lies).mono ?_; rintro e w4 ⟨g, rfl, hr, hb⟩
  have B4 := hidH (bThen B3.out hb)
  have s4 := hb.size
  have W_4 := hidH (W_3.out.below hb)
  have X0_4 := hidH (X0_3.out.below hb)
  have G_4 := hidH hr
  clear hb B3 W_3 X0_3 hr
  have hlens := stepsA_len zs0 n1 n2 n3
  generalize hrs : stepsA zs0 n1 n2 n3 = rs at *
  have HRS := hidH hrs
  clear hrs
  generalize hrb : stepsB zs0 n1 n2 n3 = rb at *
  have HRB := hidH hrb
  clear hrb
  have hlen : rs.length ≤ 1048576 := by omega
  have hlE : lenE rs ≤ 1048576 := by omega
  go_wp2_with fail
  refine (eqEs_yes g u rs _ _ _ G_4.out.lies W_4.out hlen).mono ?_; rintro e w5 ⟨rfl, hb⟩
  have B5 := hidH (bThen B4.out hb)
  have s5 := hb.size
  have W_5 := hidH (W_4.out.below hb)
  have X0_5 := hidH (X0_4.out.below hb)
  have G_5 := hidH (G_4.out.below hb)
  clear hb B4 W_4 X0_4 G_4
  go_wp2_with fail
  refine (toInts_any _ zs0 _ ((HV0.out.below B5.out).mono (Nat.le_refl _) B5.out.size) hsm0).mono ?_; rintro e w6 ⟨y0, rfl, hr, hb⟩
  have B6 := hidH (bThen B5.out hb)
  have s6 := hb.size
  have W_6 := hidH (W_5.out.below hb)
  have X0_6 := hidH (X0_5.out.below hb)
  have G_6 := hidH (G_5.out.below hb)
  have Y0_6 := hidH hr
  clear hb B5 W_5 X0_5 G_5 hr
  go_wp2_with fail
  refine (eqInts_yes x0 y0 zs0 _ _ _ _ _ X0_6.out.lies Y0_6.out.lies).mono ?_; rintro e w7 ⟨rfl, hb⟩
  have B7 := hidH (bThen B6.out hb)
  have s7 := hb.size
  have W_7 := hidH (W_6.out.below hb)
  have X0_7 := hidH (X0_6.out.below hb)
  have G_7 := hidH (G_6.out.below hb)
  have Y0_7 := hidH (Y0_6.out.below hb)
  clear hb B6 W_6 X0_6 G_6 Y0_6
  clear Y0_7
  go_wp2_with fail
  refine (mark_any x0 zs0 (1) _ _ _ X0_7.out (by omega) (by omega) hsm0).mono ?_; rintro e w8 ⟨rfl, hr, ha⟩
  have s8 := ha.size
  have B8 := hidH (B7.out.trans (ha.below (by have := B7.out.size; omega) B7.out.size))
  have W_8 := hidH (W_7.out.apart ha (by omega))
  have G_8 := hidH (G_7.out.apart ha (by omega))
  have X0_8 := hidH hr
  clear ha B7 W_7 X0_7 G_7 hr
  clear X0_8
  go_wp2_with fail
  refine (eqEs_yes g u rs _ _ _ G_8.out.lies W_8.out hlen).mono ?_; rintro e w9 ⟨rfl, hb⟩
  have B9 := hidH (bThen B8.out hb)
  have s9 := hb.size
  have W_9 := hidH (W_8.out.below hb)
  have G_9 := hidH (G_8.out.below hb)
  clear hb B8 W_8 G_8
  go_wp2_with fail
  refine (markEs_any g rs 1 _ _ _ G_9.out (by omega) (by omega) hlE).mono ?_; rintro e w10 ⟨rfl, hr, ha⟩
  have s10 := ha.size
  have B10 := hidH (B9.out.trans (ha.below (by have := B9.out.size; omega) B9.out.size))
  have W_10 := hidH (W_9.out.apart ha (by omega))
  have G_10 := hidH hr
  clear ha B9 W_9 G_9 hr
  go_wp2_with fail
  refine (heldEs_any g rs 1 _ _ G_10.out.lies (by omega) (by omega) hlE).mono ?_; rintro e w11 ⟨rfl, hb⟩
  have B11 := hidH (bThen B10.out hb)
  have s11 := hb.size
  have W_11 := hidH (W_10.out.below hb)
  have G_11 := hidH (G_10.out.below hb)
  clear hb B10 W_10 G_10
  go_wp2_with fail
  refine (toInts_any _ zs0 _ ((HV0.out.below B11.out).mono (Nat.le_refl _) B11.out.size) hsm0).mono ?_; rintro e w12 ⟨t0_, rfl, hr, hb⟩
  have B12 := hidH (bThen B11.out hb)
  have s12 := hb.size
  have W_12 := hidH (W_11.out.below hb)
  have G_12 := hidH (G_11.out.below hb)
  have T0_12 := hidH hr
  clear hb B11 W_11 G_11 hr
  go_wp2_with fail
  refine (stepEng_any t0_ zs0 n1 n2 n3 _ _ _ T0_12.out.lies).mono ?_; rintro e w13 ⟨h, rfl, hr, hb⟩
  rw [HRS.out] at hr
  rw [HRB.out]
  have B13 := hidH (bThen B12.out hb)
  have s13 := hb.size
  have W_13 := hidH (W_12.out.below hb)
  have G_13 := hidH (G_12.out.below hb)
  have T0_13 := hidH (T0_12.out.below hb)
  have H_13 := hidH hr
  clear hb B12 W_12 G_12 T0_12 hr
  go_wp2_with fail
  refine (eqEs_yes h u rs _ _ _ H_13.out.lies W_13.out hlen).mono ?_; rintro e w14 ⟨rfl, hb⟩
  have B14 := hidH (bThen B13.out hb)
  have s14 := hb.size
  have W_14 := hidH (W_13.out.below hb)
  have G_14 := hidH (G_13.out.below hb)
  have T0_14 := hidH (T0_13.out.below hb)
  have H_14 := hidH (H_13.out.below hb)
  clear hb B13 W_13 G_13 T0_13 H_13
  go_wp2_with fail
  refine (heldEs_any g rs 1 _ _ G_14.out.lies (by omega) (by omega) hlE).mono ?_; rintro e w15 ⟨rfl, hb⟩
  have B15 := hidH (bThen B14.out hb)
  have s15 := hb.size
  have W_15 := hidH (W_14.out.below hb)
  have G_15 := hidH (G_14.out.below hb)
  have T0_15 := hidH (T0_14.out.below hb)
  have H_15 := hidH (H_14.out.below hb)
  clear hb B14 W_14 G_14 T0_14 H_14
  go_wp2_with fail
  go_ret
  exact ⟨rfl, B15.out⟩
end Go.Proofs.Ytgogpajafjihdaa
