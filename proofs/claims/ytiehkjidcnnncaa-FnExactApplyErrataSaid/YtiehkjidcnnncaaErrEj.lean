/-
  The walk of the exact law of ApplyErrata. No conditions but that slices fit in memory.
-/
import Derived.Test.YtiehkjidcnnncaaErrEg
import Derived.Test.YtiehkjidcnnncaaErrEi
namespace Go.Proofs.Ytiehkjidcnnncaa
set_option maxRecDepth 4000
open Go.RowKit
theorem Lies3.mono {w : World} {l h l2 h2 n : Nat} {v : Value} {F : List Int} (H : Lies3 w l h v n F) (hl : l2 ≤ l) (hh : h ≤ h2) : Lies3 w l2 h2 v n F := by
  obtain ⟨h0, a, cap, e1, e2, e3, e4, e5⟩ := H
  exact ⟨h0, a, cap, e1, e2, e3, e4, e5.mono hl hh⟩
set_option maxHeartbeats 1000000 in
theorem exApplyErrata (v0 : Value) (zs0 : List Int) (a1 : Option Addr) (n cap1 : Nat) (F : List Int) (w : World) (hv0 : Lies w 0 w.heap.size v0 zs0) (hlc1 : n ≤ cap1) (hcm1 : cap1 ≤ maxLen) (hE1 : n ≤ 1048576 → Lies3 w 0 w.heap.size (.slice a1 n cap1) n F) : Calls Try.prog 6 #[v0, .slice a1 n cap1] w (Gives (.bool true) w) := by
  have HV0 := hidH hv0
  obtain ⟨a0, cap0, rfl, hlc0, hcm0, hnil0, hcell0⟩ := hv0
  clear hnil0 hcell0
  have HCM1 := hidH hcm1
  unfold maxLen at hcm0 hcm1
  by_cases hbig0 : 1048576 < zs0.length
  · go_enter Try.func6, Try.ntmps6
    go_wp2
    go_ret
    exact ⟨rfl, Below.refl _ _⟩
  · have hsm0 : zs0.length ≤ 1048576 := by omega
    clear hbig0
    by_cases hbig1 : 1048576 < n
    · go_enter Try.func6, Try.ntmps6
      go_wp2_with fail
      refine (szE_any a1 n cap1 _ 1048576 hlc1 HCM1.out (by omega) (by omega)).mono ?_; rintro e wz ⟨rfl, hb⟩
      rw [if_neg (by omega)]
      go_wp2_with fail
      go_ret
      exact ⟨rfl, hb⟩
    · have hsm1 : n ≤ 1048576 := by omega
      clear hbig1
      go_enter Try.func6, Try.ntmps6
      have HV1 := hidH (hE1 hsm1)
      clear hE1
      go_wp2_with fail
      refine (szE_any a1 n cap1 _ 1048576 hlc1 HCM1.out (by omega) (by omega)).mono ?_; rintro e w0 ⟨rfl, hb⟩
      have B0 := hidH hb
      have s0 := hb.size
      rw [if_pos (by omega)]
      have hdn : decide ((1048576 : Int) - (n : Int) < 0) = false := decide_eq_false (by omega)
      clear hb
      go_wp2_with fail
      refine (toInts_any _ zs0 _ ((HV0.out.below B0.out).mono (Nat.le_refl _) B0.out.size) hsm0).mono ?_; rintro e w1 ⟨t0, rfl, hr, hb⟩
      have B1 := hidH (B0.out.trans (hb.mono B0.out.size))
      have s1 := hb.size
      have T0_1 := hidH hr
      clear hb hr
      clear B0 
      go_wp2_with fail
      refine (toE_any _ n F _ ((HV1.out.below B1.out).mono (Nat.le_refl _) B1.out.size) hsm1).mono ?_; rintro e w2 ⟨t1, rfl, hr, hb⟩
      have B2 := hidH (B1.out.trans (hb.mono B1.out.size))
      have s2 := hb.size
      have T0_2 := hidH (T0_1.out.below hb)
      have T1_2 := hidH hr
      clear hb hr
      clear B1 T0_1
      go_wp2_with fail
      refine (sApplyE_any t0 zs0 t1 n F _ _ _ _ _ T0_2.out.lies T1_2.out.lies hsm1).mono ?_; rintro e w3 ⟨u, rfl, hr, hb⟩
      have B3 := hidH (B2.out.trans (hb.mono B2.out.size))
      have s3 := hb.size
      have T0_3 := hidH (T0_2.out.below hb)
      have T1_3 := hidH (T1_2.out.below hb)
      have W_3 := hidH hr
      clear hb hr
      clear B2 T0_2 T1_2
      clear T0_3
      clear T1_3
      go_wp2_with fail
      refine (toInts_any _ zs0 _ ((HV0.out.below B3.out).mono (Nat.le_refl _) B3.out.size) hsm0).mono ?_; rintro e w4 ⟨x0, rfl, hr, hb⟩
      have B4 := hidH (B3.out.trans (hb.mono B3.out.size))
      have s4 := hb.size
      have W_4 := hidH (W_3.out.below hb)
      have X0_4 := hidH hr
      clear hb hr
      clear B3 W_3
      go_wp2_with fail
      refine (toE_any _ n F _ ((HV1.out.below B4.out).mono (Nat.le_refl _) B4.out.size) hsm1).mono ?_; rintro e w5 ⟨x1, rfl, hr, hb⟩
      have B5 := hidH (B4.out.trans (hb.mono B4.out.size))
      have s5 := hb.size
      have W_5 := hidH (W_4.out.below hb)
      have X0_5 := hidH (X0_4.out.below hb)
      have X1_5 := hidH hr
      clear hb hr
      clear B4 W_4 X0_4
      go_wp2_with fail
      refine (applyE_any x0 zs0 x1 n F _ _ _ _ _ X0_5.out.lies X1_5.out.lies hsm1).mono ?_; rintro e w6 ⟨g, rfl, hr, hb⟩
      have B6 := hidH (B5.out.trans (hb.mono B5.out.size))
      have s6 := hb.size
      have W_6 := hidH (W_5.out.below hb)
      have X0_6 := hidH (X0_5.out.below hb)
      have X1_6 := hidH (X1_5.out.below hb)
      have G_6 := hidH hr
      clear hb hr
      clear B5 W_5 X0_5 X1_5
      have hlen := applyA_len zs0 F n hsm0
      generalize hrs : applyA zs0 F n = rs at *
      have HRS := hidH hrs
      clear hrs
      generalize hrb : applyB zs0 F n = rb at *
      have HRB := hidH hrb
      clear hrb
      go_wp2_with fail
      refine (eqInts_yes g u rs _ _ _ _ _ G_6.out.lies W_6.out.lies).mono ?_; rintro e w7 ⟨rfl, hb⟩
      have B7 := hidH (B6.out.trans (hb.mono B6.out.size))
      have s7 := hb.size
      have W_7 := hidH (W_6.out.below hb)
      have X0_7 := hidH (X0_6.out.below hb)
      have X1_7 := hidH (X1_6.out.below hb)
      have G_7 := hidH (G_6.out.below hb)
      clear hb
      clear B6 W_6 X0_6 X1_6 G_6
      go_wp2_with fail
      refine (toInts_any _ zs0 _ ((HV0.out.below B7.out).mono (Nat.le_refl _) B7.out.size) hsm0).mono ?_; rintro e w8 ⟨y0, rfl, hr, hb⟩
      have B8 := hidH (B7.out.trans (hb.mono B7.out.size))
      have s8 := hb.size
      have W_8 := hidH (W_7.out.below hb)
      have X0_8 := hidH (X0_7.out.below hb)
      have X1_8 := hidH (X1_7.out.below hb)
      have G_8 := hidH (G_7.out.below hb)
      have Y0_8 := hidH hr
      clear hb hr
      clear B7 W_7 X0_7 X1_7 G_7
      go_wp2_with fail
      refine (eqInts_yes x0 y0 zs0 _ _ _ _ _ X0_8.out.lies Y0_8.out.lies).mono ?_; rintro e w9 ⟨rfl, hb⟩
      have B9 := hidH (B8.out.trans (hb.mono B8.out.size))
      have s9 := hb.size
      have W_9 := hidH (W_8.out.below hb)
      have X0_9 := hidH (X0_8.out.below hb)
      have X1_9 := hidH (X1_8.out.below hb)
      have G_9 := hidH (G_8.out.below hb)
      have Y0_9 := hidH (Y0_8.out.below hb)
      clear hb
      clear B8 W_8 X0_8 X1_8 G_8 Y0_8
      clear Y0_9
      go_wp2_with fail
      refine (toE_any _ n F _ ((HV1.out.below B9.out).mono (Nat.le_refl _) B9.out.size) hsm1).mono ?_; rintro e w10 ⟨y1, rfl, hr, hb⟩
      have B10 := hidH (B9.out.trans (hb.mono B9.out.size))
      have s10 := hb.size
      have W_10 := hidH (W_9.out.below hb)
      have X0_10 := hidH (X0_9.out.below hb)
      have X1_10 := hidH (X1_9.out.below hb)
      have G_10 := hidH (G_9.out.below hb)
      have Y1_10 := hidH hr
      clear hb hr
      clear B9 W_9 X0_9 X1_9 G_9
      go_wp2_with fail
      refine (eqE_yes x1 y1 n F _ _ _ _ _ X1_10.out.lies Y1_10.out.lies hsm1).mono ?_; rintro e w11 ⟨rfl, hb⟩
      have B11 := hidH (B10.out.trans (hb.mono B10.out.size))
      have s11 := hb.size
      have W_11 := hidH (W_10.out.below hb)
      have X0_11 := hidH (X0_10.out.below hb)
      have X1_11 := hidH (X1_10.out.below hb)
      have G_11 := hidH (G_10.out.below hb)
      have Y1_11 := hidH (Y1_10.out.below hb)
      clear hb
      clear B10 W_10 X0_10 X1_10 G_10 Y1_10
      clear Y1_11
      go_wp2_with fail
      refine (mark_any x0 zs0 (1) _ _ _ X0_11.out (by omega) (by omega) hsm0).mono ?_; rintro e w12 ⟨rfl, hr, ha⟩
      have s12 := ha.size
      have B12 := hidH (B11.out.trans (ha.below (by have := B11.out.size; omega) B11.out.size))
      have W_12 := hidH (W_11.out.apart ha (by omega))
      have X1_12 := hidH (X1_11.out.apart ha (by omega))
      have G_12 := hidH (G_11.out.apart ha (by omega))
      have X0_12 := hidH hr
      clear ha hr
      clear B11 W_11 X0_11 X1_11 G_11
      go_wp2_with fail
      refine (markE_any x1 n F (1 + (zs0.length : Int)) _ _ _ X1_12.out (by omega) (by omega) hsm1).mono ?_; rintro e w13 ⟨rfl, hr, ha⟩
      have s13 := ha.size
      have B13 := hidH (B12.out.trans (ha.below (by have := B12.out.size; omega) B12.out.size))
      have W_13 := hidH (W_12.out.apart ha (by omega))
      have X0_13 := hidH (X0_12.out.apart ha (by omega))
      have G_13 := hidH (G_12.out.apart ha (by omega))
      have X1_13 := hidH hr
      clear ha hr
      clear B12 W_12 X0_12 X1_12 G_12
      clear X0_13
      clear X1_13
      go_wp2_with fail
      refine (eqInts_yes g u rs _ _ _ _ _ G_13.out.lies W_13.out.lies).mono ?_; rintro e w14 ⟨rfl, hb⟩
      have B14 := hidH (B13.out.trans (hb.mono B13.out.size))
      have s14 := hb.size
      have W_14 := hidH (W_13.out.below hb)
      have G_14 := hidH (G_13.out.below hb)
      clear hb
      clear B13 W_13 G_13
      go_wp2_with fail
      refine (mark_any g rs 1 _ _ _ G_14.out (by omega) (by omega) hlen).mono ?_; rintro e w15 ⟨rfl, hr, ha⟩
      have s15 := ha.size
      have B15 := hidH (B14.out.trans (ha.below (by have := B14.out.size; omega) B14.out.size))
      have W_15 := hidH (W_14.out.apart ha (by omega))
      have G_15 := hidH hr
      clear ha hr
      clear B14 W_14 G_14
      go_wp2_with fail
      refine (held_any g 1 rs.length _ _ _ G_15.out.lies (by omega) (by omega) hlen).mono ?_; rintro e w16 ⟨rfl, hb⟩
      have B16 := hidH (B15.out.trans (hb.mono B15.out.size))
      have s16 := hb.size
      have W_16 := hidH (W_15.out.below hb)
      have G_16 := hidH (G_15.out.below hb)
      clear hb
      clear B15 W_15 G_15
      go_wp2_with fail
      refine (toInts_any _ zs0 _ ((HV0.out.below B16.out).mono (Nat.le_refl _) B16.out.size) hsm0).mono ?_; rintro e w17 ⟨t0_, rfl, hr, hb⟩
      have B17 := hidH (B16.out.trans (hb.mono B16.out.size))
      have s17 := hb.size
      have W_17 := hidH (W_16.out.below hb)
      have G_17 := hidH (G_16.out.below hb)
      have T0_17 := hidH hr
      clear hb hr
      clear B16 W_16 G_16
      go_wp2_with fail
      refine (toE_any _ n F _ ((HV1.out.below B17.out).mono (Nat.le_refl _) B17.out.size) hsm1).mono ?_; rintro e w18 ⟨t1_, rfl, hr, hb⟩
      have B18 := hidH (B17.out.trans (hb.mono B17.out.size))
      have s18 := hb.size
      have W_18 := hidH (W_17.out.below hb)
      have G_18 := hidH (G_17.out.below hb)
      have T0_18 := hidH (T0_17.out.below hb)
      have T1_18 := hidH hr
      clear hb hr
      clear B17 W_17 G_17 T0_17
      go_wp2_with fail
      refine (applyE_any t0_ zs0 t1_ n F _ _ _ _ _ T0_18.out.lies T1_18.out.lies hsm1).mono ?_; rintro e w19 ⟨h, rfl, hr, hb⟩
      have B19 := hidH (B18.out.trans (hb.mono B18.out.size))
      have s19 := hb.size
      have W_19 := hidH (W_18.out.below hb)
      have G_19 := hidH (G_18.out.below hb)
      have T0_19 := hidH (T0_18.out.below hb)
      have T1_19 := hidH (T1_18.out.below hb)
      have H_19 := hidH hr
      clear hb hr
      clear B18 W_18 G_18 T0_18 T1_18
      rw [HRS.out] at H_19
      rw [HRB.out]
      go_wp2_with fail
      refine (eqInts_yes h u rs _ _ _ _ _ H_19.out.lies W_19.out.lies).mono ?_; rintro e w20 ⟨rfl, hb⟩
      have B20 := hidH (B19.out.trans (hb.mono B19.out.size))
      have s20 := hb.size
      have W_20 := hidH (W_19.out.below hb)
      have G_20 := hidH (G_19.out.below hb)
      have T0_20 := hidH (T0_19.out.below hb)
      have T1_20 := hidH (T1_19.out.below hb)
      have H_20 := hidH (H_19.out.below hb)
      clear hb
      clear B19 W_19 G_19 T0_19 T1_19 H_19
      go_wp2_with fail
      refine (held_any g 1 rs.length _ _ _ G_20.out.lies (by omega) (by omega) hlen).mono ?_; rintro e w21 ⟨rfl, hb⟩
      have B21 := hidH (B20.out.trans (hb.mono B20.out.size))
      have s21 := hb.size
      have W_21 := hidH (W_20.out.below hb)
      have G_21 := hidH (G_20.out.below hb)
      have T0_21 := hidH (T0_20.out.below hb)
      have T1_21 := hidH (T1_20.out.below hb)
      have H_21 := hidH (H_20.out.below hb)
      clear hb
      clear B20 W_20 G_20 T0_20 T1_20 H_20
      go_wp2
      go_ret
      exact ⟨rfl, B21.out⟩
end Go.Proofs.Ytiehkjidcnnncaa
