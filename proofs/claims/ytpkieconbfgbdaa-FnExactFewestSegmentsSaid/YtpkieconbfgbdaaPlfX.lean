/-
  The walk of the exact law of FewestSegments. Condition: slices of at most 1048576 numbers.
-/
import Derived.Test.YtpkieconbfgbdaaPlfC
import Derived.Test.YtpkieconbfgbdaaSl
namespace Go.Proofs.Ytpkieconbfgbdaa
set_option maxRecDepth 4000
open Go.RowKit
set_option maxHeartbeats 1000000 in
theorem exFewestSegments (v0 : Value) (zs0 : List Int) (n1 : Int) (w : World) (hv0 : Lies w 0 w.heap.size v0 zs0) : Calls Try.prog 4 #[v0, .int .i64 n1] w (Gives (.bool true) w) := by
  have HV0 := hidH hv0
  obtain ⟨a0, cap0, rfl, hlc0, hcm0, hnil0, hcell0⟩ := hv0
  clear hnil0 hcell0
  unfold maxLen at hcm0
  by_cases hbig0 : 1048576 < zs0.length
  · go_enter Try.func4, Try.ntmps4
    go_wp2
    go_ret
    exact ⟨rfl, Below.refl _ _⟩
  · have hsm0 : zs0.length ≤ 1048576 := by omega
    clear hbig0
    go_enter Try.func4, Try.ntmps4
    have B0 := hidH (Below.refl w.heap.size w)
    go_wp2_with fail
    refine (toInts_any _ zs0 _ ((HV0.out.below B0.out).mono (Nat.le_refl _) B0.out.size) hsm0).mono ?_; rintro e w1 ⟨t0, rfl, hr, hb⟩
    have B1 := hidH (B0.out.trans (hb.mono B0.out.size))
    have s1 := hb.size
    have T0_1 := hidH hr
    clear hb hr
    clear B0 
    go_wp2_with fail
    refine (sFewest_any t0 zs0 n1 _ _ _ T0_1.out.lies).mono ?_; rintro e w2 ⟨rfl, hb⟩
    have B2 := hidH (B1.out.trans (hb.mono B1.out.size))
    have s2 := hb.size
    have T0_2 := hidH (T0_1.out.below hb)
    clear hb
    clear B1 T0_1
    clear T0_2
    go_wp2_with fail
    refine (toInts_any _ zs0 _ ((HV0.out.below B2.out).mono (Nat.le_refl _) B2.out.size) hsm0).mono ?_; rintro e w3 ⟨x0, rfl, hr, hb⟩
    have B3 := hidH (B2.out.trans (hb.mono B2.out.size))
    have s3 := hb.size
    have X0_3 := hidH hr
    clear hb hr
    clear B2 
    go_wp2_with fail
    refine (fewest_any x0 zs0 n1 _ _ _ X0_3.out.lies).mono ?_; rintro e w4 ⟨rfl, hb⟩
    have B4 := hidH (B3.out.trans (hb.mono B3.out.size))
    have s4 := hb.size
    have X0_4 := hidH (X0_3.out.below hb)
    clear hb
    clear B3 X0_3
    generalize fewA zs0 n1 = r0 at *
    go_wp2_with fail
    refine (toInts_any _ zs0 _ ((HV0.out.below B4.out).mono (Nat.le_refl _) B4.out.size) hsm0).mono ?_; rintro e w5 ⟨y0, rfl, hr, hb⟩
    have B5 := hidH (B4.out.trans (hb.mono B4.out.size))
    have s5 := hb.size
    have X0_5 := hidH (X0_4.out.below hb)
    have Y0_5 := hidH hr
    clear hb hr
    clear B4 X0_4
    go_wp2_with fail
    refine (eqInts_yes x0 y0 zs0 _ _ _ _ _ X0_5.out.lies Y0_5.out.lies).mono ?_; rintro e w6 ⟨rfl, hb⟩
    have B6 := hidH (B5.out.trans (hb.mono B5.out.size))
    have s6 := hb.size
    have X0_6 := hidH (X0_5.out.below hb)
    have Y0_6 := hidH (Y0_5.out.below hb)
    clear hb
    clear B5 X0_5 Y0_5
    clear Y0_6
    go_wp2
    go_ret
    exact ⟨rfl, B6.out⟩
end Go.Proofs.Ytpkieconbfgbdaa
