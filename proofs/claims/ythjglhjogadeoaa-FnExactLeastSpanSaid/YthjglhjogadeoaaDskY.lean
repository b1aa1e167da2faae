/-
  The walks of the exact laws of BestSchedule and LeastSpan. Condition: slices of at most 1048576 numbers.
-/
import Derived.Test.YthjglhjogadeoaaDskK
import Derived.Test.YthjglhjogadeoaaSl
namespace Go.Proofs.Ythjglhjogadeoaa
set_option maxRecDepth 4000
open Go.RowKit
set_option maxHeartbeats 1000000 in
theorem exBestSchedule (v0 : Value) (zs0 : List Int) (n1 : Int) (w : World) (hv0 : Lies w 0 w.heap.size v0 zs0) : Calls Try.prog 6 #[v0, .int .i64 n1] w (Gives (.bool true) w) := by
  have HV0 := hidH hv0
  obtain ⟨a0, cap0, rfl, hlc0, hcm0, hnil0, hcell0⟩ := hv0
  clear hnil0 hcell0
  unfold maxLen at hcm0
  by_cases hbig0 : 1048576 < zs0.length
  · go_enter Try.func6, Try.ntmps6
    go_wp2
    go_ret
    exact ⟨rfl, Below.refl _ _⟩
  · have hsm0 : zs0.length ≤ 1048576 := by omega
    clear hbig0
    go_enter Try.func6, Try.ntmps6
    have B0 := hidH (Below.refl w.heap.size w)
    go_wp2_with fail
    refine (toInts_any _ zs0 _ ((HV0.out.below B0.out).mono (Nat.le_refl _) B0.out.size) hsm0).mono ?_; rintro e w1 ⟨t0, rfl, hr, hb⟩
    have B1 := hidH (B0.out.trans (hb.mono B0.out.size))
    have s1 := hb.size
    have T0_1 := hidH hr
    clear hb hr
    clear B0 
    go_wp2_with fail
    refine (sBestG_any t0 zs0 n1 _ _ _ T0_1.out.lies).mono ?_; rintro e w2 ⟨u, rfl, hr, hb⟩
    have B2 := hidH (B1.out.trans (hb.mono B1.out.size))
    have s2 := hb.size
    have T0_2 := hidH (T0_1.out.below hb)
    have W_2 := hidH hr
    clear hb hr
    clear B1 T0_1
    clear T0_2
    go_wp2_with fail
    refine (toInts_any _ zs0 _ ((HV0.out.below B2.out).mono (Nat.le_refl _) B2.out.size) hsm0).mono ?_; rintro e w3 ⟨x0, rfl, hr, hb⟩
    have B3 := hidH (B2.out.trans (hb.mono B2.out.size))
    have s3 := hb.size
    have W_3 := hidH (W_2.out.below hb)
    have X0_3 := hidH hr
    clear hb hr
    clear B2 W_2
    go_wp2_with fail
    refine (bestG_any x0 zs0 n1 _ _ _ X0_3.out.lies).mono ?_; rintro e w4 ⟨g, rfl, hr, hb⟩
    have B4 := hidH (B3.out.trans (hb.mono B3.out.size))
    have s4 := hb.size
    have W_4 := hidH (W_3.out.below hb)
    have X0_4 := hidH (X0_3.out.below hb)
    have G_4 := hidH hr
    clear hb hr
    clear B3 W_3 X0_3
    have hlen := bestA_len zs0 n1
    generalize hrs : bestA zs0 n1 = rs at *
    have HRS := hidH hrs
    clear hrs
    go_wp2_with fail
    refine (eqInts_yes g u rs _ _ _ _ _ G_4.out.lies W_4.out.lies).mono ?_; rintro e w5 ⟨rfl, hb⟩
    have B5 := hidH (B4.out.trans (hb.mono B4.out.size))
    have s5 := hb.size
    have W_5 := hidH (W_4.out.below hb)
    have X0_5 := hidH (X0_4.out.below hb)
    have G_5 := hidH (G_4.out.below hb)
    clear hb
    clear B4 W_4 X0_4 G_4
    go_wp2_with fail
    refine (toInts_any _ zs0 _ ((HV0.out.below B5.out).mono (Nat.le_refl _) B5.out.size) hsm0).mono ?_; rintro e w6 ⟨y0, rfl, hr, hb⟩
    have B6 := hidH (B5.out.trans (hb.mono B5.out.size))
    have s6 := hb.size
    have W_6 := hidH (W_5.out.below hb)
    have X0_6 := hidH (X0_5.out.below hb)
    have G_6 := hidH (G_5.out.below hb)
    have Y0_6 := hidH hr
    clear hb hr
    clear B5 W_5 X0_5 G_5
    go_wp2_with fail
    refine (eqInts_yes x0 y0 zs0 _ _ _ _ _ X0_6.out.lies Y0_6.out.lies).mono ?_; rintro e w7 ⟨rfl, hb⟩
    have B7 := hidH (B6.out.trans (hb.mono B6.out.size))
    have s7 := hb.size
    have W_7 := hidH (W_6.out.below hb)
    have X0_7 := hidH (X0_6.out.below hb)
    have G_7 := hidH (G_6.out.below hb)
    have Y0_7 := hidH (Y0_6.out.below hb)
    clear hb
    clear B6 W_6 X0_6 G_6 Y0_6
    clear Y0_7
    go_wp2_with fail
    refine (mark_any x0 zs0 (1) _ _ _ X0_7.out (by omega) (by omega) hsm0).mono ?_; rintro e w8 ⟨rfl, hr, ha⟩
    have s8 := ha.size
    have B8 := hidH (B7.out.trans (ha.below (by have := B7.out.size; omega) B7.out.size))
    have W_8 := hidH (W_7.out.apart ha (by omega))
    have G_8 := hidH (G_7.out.apart ha (by omega))
    have X0_8 := hidH hr
    clear ha hr
    clear B7 W_7 X0_7 G_7
    clear X0_8
    go_wp2_with fail
    refine (eqInts_yes g u rs _ _ _ _ _ G_8.out.lies W_8.out.lies).mono ?_; rintro e w9 ⟨rfl, hb⟩
    have B9 := hidH (B8.out.trans (hb.mono B8.out.size))
    have s9 := hb.size
    have W_9 := hidH (W_8.out.below hb)
    have G_9 := hidH (G_8.out.below hb)
    clear hb
    clear B8 W_8 G_8
    go_wp2_with fail
    refine (mark_any g rs 1 _ _ _ G_9.out (by omega) (by omega) hlen).mono ?_; rintro e w10 ⟨rfl, hr, ha⟩
    have s10 := ha.size
    have B10 := hidH (B9.out.trans (ha.below (by have := B9.out.size; omega) B9.out.size))
    have W_10 := hidH (W_9.out.apart ha (by omega))
    have G_10 := hidH hr
    clear ha hr
    clear B9 W_9 G_9
    go_wp2_with fail
    refine (held_any g 1 rs.length _ _ _ G_10.out.lies (by omega) (by omega) hlen).mono ?_; rintro e w11 ⟨rfl, hb⟩
    have B11 := hidH (B10.out.trans (hb.mono B10.out.size))
    have s11 := hb.size
    have W_11 := hidH (W_10.out.below hb)
    have G_11 := hidH (G_10.out.below hb)
    clear hb
    clear B10 W_10 G_10
    go_wp2_with fail
    refine (toInts_any _ zs0 _ ((HV0.out.below B11.out).mono (Nat.le_refl _) B11.out.size) hsm0).mono ?_; rintro e w12 ⟨t0_, rfl, hr, hb⟩
    have B12 := hidH (B11.out.trans (hb.mono B11.out.size))
    have s12 := hb.size
    have W_12 := hidH (W_11.out.below hb)
    have G_12 := hidH (G_11.out.below hb)
    have T0_12 := hidH hr
    clear hb hr
    clear B11 W_11 G_11
    go_wp2_with fail
    refine (bestG_any t0_ zs0 n1 _ _ _ T0_12.out.lies).mono ?_; rintro e w13 ⟨h, rfl, hr, hb⟩
    have B13 := hidH (B12.out.trans (hb.mono B12.out.size))
    have s13 := hb.size
    have W_13 := hidH (W_12.out.below hb)
    have G_13 := hidH (G_12.out.below hb)
    have T0_13 := hidH (T0_12.out.below hb)
    have H_13 := hidH hr
    clear hb hr
    clear B12 W_12 G_12 T0_12
    rw [HRS.out] at H_13
    go_wp2_with fail
    refine (eqInts_yes h u rs _ _ _ _ _ H_13.out.lies W_13.out.lies).mono ?_; rintro e w14 ⟨rfl, hb⟩
    have B14 := hidH (B13.out.trans (hb.mono B13.out.size))
    have s14 := hb.size
    have W_14 := hidH (W_13.out.below hb)
    have G_14 := hidH (G_13.out.below hb)
    have T0_14 := hidH (T0_13.out.below hb)
    have H_14 := hidH (H_13.out.below hb)
    clear hb
    clear B13 W_13 G_13 T0_13 H_13
    go_wp2_with fail
    refine (held_any g 1 rs.length _ _ _ G_14.out.lies (by omega) (by omega) hlen).mono ?_; rintro e w15 ⟨rfl, hb⟩
    have B15 := hidH (B14.out.trans (hb.mono B14.out.size))
    have s15 := hb.size
    have W_15 := hidH (W_14.out.below hb)
    have G_15 := hidH (G_14.out.below hb)
    have T0_15 := hidH (T0_14.out.below hb)
    have H_15 := hidH (H_14.out.below hb)
    clear hb
    clear B14 W_14 G_14 T0_14 H_14
    go_wp2
    go_ret
    exact ⟨rfl, B15.out⟩
set_option maxHeartbeats 1000000 in
theorem exLeastSpan (v0 : Value) (zs0 : List Int) (n1 : Int) (w : World) (hv0 : Lies w 0 w.heap.size v0 zs0) : Calls Try.prog 7 #[v0, .int .i64 n1] w (Gives (.bool true) w) := by
  have HV0 := hidH hv0
  obtain ⟨a0, cap0, rfl, hlc0, hcm0, hnil0, hcell0⟩ := hv0
  clear hnil0 hcell0
  unfold maxLen at hcm0
  by_cases hbig0 : 1048576 < zs0.length
  · go_enter Try.func7, Try.ntmps7
    go_wp2
    go_ret
    exact ⟨rfl, Below.refl _ _⟩
  · have hsm0 : zs0.length ≤ 1048576 := by omega
    clear hbig0
    go_enter Try.func7, Try.ntmps7
    have B0 := hidH (Below.refl w.heap.size w)
    go_wp2_with fail
    refine (toInts_any _ zs0 _ ((HV0.out.below B0.out).mono (Nat.le_refl _) B0.out.size) hsm0).mono ?_; rintro e w1 ⟨t0, rfl, hr, hb⟩
    have B1 := hidH (B0.out.trans (hb.mono B0.out.size))
    have s1 := hb.size
    have T0_1 := hidH hr
    clear hb hr
    clear B0 
    go_wp2_with fail
    refine (sLeast_any t0 zs0 n1 _ _ _ T0_1.out.lies).mono ?_; rintro e w2 ⟨rfl, hb⟩
    have B2 := hidH (B1.out.trans (hb.mono B1.out.size))
    have s2 := hb.size
    have T0_2 := hidH (T0_1.out.below hb)
    clear hb
    clear B1 T0_1
    clear T0_2
    go_wp2_with fail
    refine (toInts_any _ zs0 _ ((HV0.out.below B2.out).mono (Nat.le_refl _) B2.out.size) hsm0).mono ?_; rintro e w3 ⟨x0, rfl, hr, hb⟩
    have B3 := hidH (B2.out.trans (hb.mono B2.out.size))
    have s3 := hb.size
    have X0_3 := hidH hr
    clear hb hr
    clear B2 
    go_wp2_with fail
    refine (least_any x0 zs0 n1 _ _ _ X0_3.out.lies).mono ?_; rintro e w4 ⟨rfl, hb⟩
    have B4 := hidH (B3.out.trans (hb.mono B3.out.size))
    have s4 := hb.size
    have X0_4 := hidH (X0_3.out.below hb)
    clear hb
    clear B3 X0_3
    generalize leastA zs0 n1 = r0 at *
    go_wp2_with fail
    refine (toInts_any _ zs0 _ ((HV0.out.below B4.out).mono (Nat.le_refl _) B4.out.size) hsm0).mono ?_; rintro e w5 ⟨y0, rfl, hr, hb⟩
    have B5 := hidH (B4.out.trans (hb.mono B4.out.size))
    have s5 := hb.size
    have X0_5 := hidH (X0_4.out.below hb)
    have Y0_5 := hidH hr
    clear hb hr
    clear B4 X0_4
    go_wp2_with fail
    refine (eqInts_yes x0 y0 zs0 _ _ _ _ _ X0_5.out.lies Y0_5.out.lies).mono ?_; rintro e w6 ⟨rfl, hb⟩
    have B6 := hidH (B5.out.trans (hb.mono B5.out.size))
    have s6 := hb.size
    have X0_6 := hidH (X0_5.out.below hb)
    have Y0_6 := hidH (Y0_5.out.below hb)
    clear hb
    clear B5 X0_5 Y0_5
    clear Y0_6
    go_wp2
    go_ret
    exact ⟨rfl, B6.out⟩
end Go.Proofs.Ythjglhjogadeoaa
