/-
  The walk of the exact law of DiagnoseSlip. No conditions but that slices fit in memory.
-/
import Derived.Test.YtecijhlfgadimaaErrE3
import Derived.Test.YtecijhlfgadimaaSl
namespace Go.Proofs.Ytecijhlfgadimaa
set_option maxRecDepth 4000
open Go.RowKit
set_option maxHeartbeats 1000000 in
theorem exDiagnoseSlip (v0 : Value) (zs0 : List Int) (v1 : Value) (zs1 : List Int) (w : World) (hv0 : Lies w 0 w.heap.size v0 zs0) (hv1 : Lies w 0 w.heap.size v1 zs1) : Calls Try.prog 7 #[v0, v1] w (Gives (.bool true) w) := by
  have HV0 := hidH hv0
  obtain ⟨a0, cap0, rfl, hlc0, hcm0, hnil0, hcell0⟩ := hv0
  clear hnil0 hcell0
  have HV1 := hidH hv1
  obtain ⟨a1, cap1, rfl, hlc1, hcm1, hnil1, hcell1⟩ := hv1
  clear hnil1 hcell1
  unfold maxLen at hcm0 hcm1
  by_cases hbig0 : 1048576 < zs0.length
  · go_enter Try.func7, Try.ntmps7
    go_wp2
    go_ret
    exact ⟨rfl, Below.refl _ _⟩
  · have hsm0 : zs0.length ≤ 1048576 := by omega
    clear hbig0
    by_cases hbig1 : 1048576 < zs1.length
    · go_enter Try.func7, Try.ntmps7
      go_wp2
      go_ret
      exact ⟨rfl, Below.refl _ _⟩
    · have hsm1 : zs1.length ≤ 1048576 := by omega
      clear hbig1
      go_enter Try.func7, Try.ntmps7
      have B0 := hidH (Below.refl w.heap.size w)
      go_wp2_with fail
      refine (toInts_any _ zs0 _ ((HV0.out.below B0.out).mono (Nat.le_refl _) B0.out.size) hsm0).mono ?_; rintro e w1 ⟨t0, rfl, hr, hb⟩
      have B1 := hidH (B0.out.trans (hb.mono B0.out.size))
      have s1 := hb.size
      have T0_1 := hidH hr
      clear hb hr
      clear B0 
      go_wp2_with fail
      refine (toInts_any _ zs1 _ ((HV1.out.below B1.out).mono (Nat.le_refl _) B1.out.size) hsm1).mono ?_; rintro e w2 ⟨t1, rfl, hr, hb⟩
      have B2 := hidH (B1.out.trans (hb.mono B1.out.size))
      have s2 := hb.size
      have T0_2 := hidH (T0_1.out.below hb)
      have T1_2 := hidH hr
      clear hb hr
      clear B1 T0_1
      go_wp2_with fail
      refine (sDiag_any t0 zs0 t1 zs1 _ _ _ _ _ T0_2.out.lies T1_2.out.lies).mono ?_; rintro e w3 ⟨rfl, hb⟩
      have B3 := hidH (B2.out.trans (hb.mono B2.out.size))
      have s3 := hb.size
      have T0_3 := hidH (T0_2.out.below hb)
      have T1_3 := hidH (T1_2.out.below hb)
      clear hb
      clear B2 T0_2 T1_2
      clear T0_3
      clear T1_3
      go_wp2_with fail
      refine (toInts_any _ zs0 _ ((HV0.out.below B3.out).mono (Nat.le_refl _) B3.out.size) hsm0).mono ?_; rintro e w4 ⟨x0, rfl, hr, hb⟩
      have B4 := hidH (B3.out.trans (hb.mono B3.out.size))
      have s4 := hb.size
      have X0_4 := hidH hr
      clear hb hr
      clear B3 
      go_wp2_with fail
      refine (toInts_any _ zs1 _ ((HV1.out.below B4.out).mono (Nat.le_refl _) B4.out.size) hsm1).mono ?_; rintro e w5 ⟨x1, rfl, hr, hb⟩
      have B5 := hidH (B4.out.trans (hb.mono B4.out.size))
      have s5 := hb.size
      have X0_5 := hidH (X0_4.out.below hb)
      have X1_5 := hidH hr
      clear hb hr
      clear B4 X0_4
      go_wp2_with fail
      refine (diag_any x0 zs0 x1 zs1 _ _ _ _ _ X0_5.out.lies X1_5.out.lies).mono ?_; rintro e w6 ⟨rfl, hb⟩
      have B6 := hidH (B5.out.trans (hb.mono B5.out.size))
      have s6 := hb.size
      have X0_6 := hidH (X0_5.out.below hb)
      have X1_6 := hidH (X1_5.out.below hb)
      clear hb
      clear B5 X0_5 X1_5
      generalize diagC zs0 zs1 = r0 at *
      generalize diagT zs0 zs1 = r1 at *
      generalize diagM zs0 zs1 = r2 at *
      generalize diagB zs0 zs1 = r3 at *
      go_wp2_with fail
      refine (toInts_any _ zs0 _ ((HV0.out.below B6.out).mono (Nat.le_refl _) B6.out.size) hsm0).mono ?_; rintro e w7 ⟨y0, rfl, hr, hb⟩
      have B7 := hidH (B6.out.trans (hb.mono B6.out.size))
      have s7 := hb.size
      have X0_7 := hidH (X0_6.out.below hb)
      have X1_7 := hidH (X1_6.out.below hb)
      have Y0_7 := hidH hr
      clear hb hr
      clear B6 X0_6 X1_6
      go_wp2_with fail
      refine (eqInts_yes x0 y0 zs0 _ _ _ _ _ X0_7.out.lies Y0_7.out.lies).mono ?_; rintro e w8 ⟨rfl, hb⟩
      have B8 := hidH (B7.out.trans (hb.mono B7.out.size))
      have s8 := hb.size
      have X0_8 := hidH (X0_7.out.below hb)
      have X1_8 := hidH (X1_7.out.below hb)
      have Y0_8 := hidH (Y0_7.out.below hb)
      clear hb
      clear B7 X0_7 X1_7 Y0_7
      clear Y0_8
      go_wp2_with fail
      refine (toInts_any _ zs1 _ ((HV1.out.below B8.out).mono (Nat.le_refl _) B8.out.size) hsm1).mono ?_; rintro e w9 ⟨y1, rfl, hr, hb⟩
      have B9 := hidH (B8.out.trans (hb.mono B8.out.size))
      have s9 := hb.size
      have X0_9 := hidH (X0_8.out.below hb)
      have X1_9 := hidH (X1_8.out.below hb)
      have Y1_9 := hidH hr
      clear hb hr
      clear B8 X0_8 X1_8
      go_wp2_with fail
      refine (eqInts_yes x1 y1 zs1 _ _ _ _ _ X1_9.out.lies Y1_9.out.lies).mono ?_; rintro e w10 ⟨rfl, hb⟩
      have B10 := hidH (B9.out.trans (hb.mono B9.out.size))
      have s10 := hb.size
      have X0_10 := hidH (X0_9.out.below hb)
      have X1_10 := hidH (X1_9.out.below hb)
      have Y1_10 := hidH (Y1_9.out.below hb)
      clear hb
      clear B9 X0_9 X1_9 Y1_9
      clear Y1_10
      go_wp2
      go_ret
      exact ⟨rfl, B10.out⟩
end Go.Proofs.Ytecijhlfgadimaa
