/-
  The walk of the exact law of FormatErrata. Conditions: slices fit in memory; the library's table of powers of ten is as its own text lays it.
-/
import Derived.Test.YtmejfkjbdokdaaaDoorErrFc
import Derived.Test.YtmejfkjbdokdaaaDoorErrFd
import Derived.Test.YtmejfkjbdokdaaaDoorErrEi
import Derived.Test.YtmejfkjbdokdaaaDoorLaid
namespace Go.Proofs.YtmejfkjbdokdaaaDoor
set_option maxRecDepth 4000
open Go.RowKit
theorem Lies3.mono {w : World} {l h l2 h2 n : Nat} {v : Value} {F : List Int} (H : Lies3 w l h v n F) (hl : l2 ≤ l) (hh : h ≤ h2) : Lies3 w l2 h2 v n F := by
  obtain ⟨h0, a, cap, e1, e2, e3, e4, e5⟩ := H
  exact ⟨h0, a, cap, e1, e2, e3, e4, e5.mono hl hh⟩
set_option maxHeartbeats 1600000 in
theorem exFormatErrata (a1 : Option Addr) (n cap1 : Nat) (F : List Int) (w : World) (hlc1 : n ≤ cap1) (hcm1 : cap1 ≤ maxLen) (hE1 : n ≤ 1048576 → Lies3 w 0 w.heap.size (.slice a1 n cap1) n F) (hT : PowT w) : Calls Tryd.prog 3 #[.slice a1 n cap1] w (Gives (.bool true) w) := by
  have HCM1 := hidH hcm1
  have HT := hidH hT
  unfold maxLen at hcm1
  clear hT
  by_cases hbig1 : 1048576 < n
  · go_enter Tryd.func3, Tryd.ntmps3
    go_wp2_with fail
    refine (szE_any a1 n cap1 _ 1048576 hlc1 HCM1.out (by omega) (by omega)).mono ?_; rintro e wz ⟨rfl, hb⟩
    rw [if_neg (by omega)]
    go_wp2_with fail
    go_ret
    exact ⟨rfl, hb⟩
  · have hsm1 : n ≤ 1048576 := by omega
    clear hbig1
    have HV1 := hidH (hE1 hsm1)
    clear hE1
    go_enter Tryd.func3, Tryd.ntmps3
    go_wp2_with fail
    refine (szE_any a1 n cap1 _ 1048576 hlc1 HCM1.out (by omega) (by omega)).mono ?_; rintro e w0 ⟨rfl, hb⟩
    have B0 := hidH hb
    rw [if_pos (by omega)]
    have hdn : decide ((1048576 : Int) - (n : Int) < 0) = false := decide_eq_false (by omega)
    clear hb
    go_wp2_with fail
    refine (toE_any _ n F _ ((HV1.out.below B0.out).mono (Nat.le_refl _) B0.out.size) hsm1).mono ?_; rintro e w1 ⟨t1, rfl, hr, hb⟩
    have B1 := hidH (B0.out.trans (hb.mono B0.out.size))
    have T_1 := hidH hr
    clear hb hr B0 
    go_wp2_with fail
    refine (sFormatE_any t1 n F _ _ _ T_1.out.lies hsm1).mono ?_; rintro e w2 ⟨rfl, hb⟩
    have B2 := hidH (B1.out.trans (hb.mono B1.out.size))
    have T_2 := hidH (T_1.out.below hb)
    clear hb B1 T_1
    clear T_2
    go_wp2_with fail
    refine (toE_any _ n F _ ((HV1.out.below B2.out).mono (Nat.le_refl _) B2.out.size) hsm1).mono ?_; rintro e w3 ⟨x1, rfl, hr, hb⟩
    have B3 := hidH (B2.out.trans (hb.mono B2.out.size))
    have X_3 := hidH hr
    clear hb hr B2 
    go_wp2_with fail
    refine (formatE_any x1 n F _ _ _ X_3.out.lies hsm1 (HT.out.below B3.out)).mono ?_; rintro e w4 ⟨rfl, hb⟩
    have B4 := hidH (B3.out.trans (hb.mono B3.out.size))
    have X_4 := hidH (X_3.out.below hb)
    clear hb B3 X_3
    generalize feB F n = r0 at *
    go_wp2_with fail
    refine (toE_any _ n F _ ((HV1.out.below B4.out).mono (Nat.le_refl _) B4.out.size) hsm1).mono ?_; rintro e w5 ⟨y1, rfl, hr, hb⟩
    have B5 := hidH (B4.out.trans (hb.mono B4.out.size))
    have X_5 := hidH (X_4.out.below hb)
    have Y_5 := hidH hr
    clear hb hr B4 X_4
    go_wp2_with fail
    refine (eqE_yes x1 y1 n F _ _ _ _ _ X_5.out.lies Y_5.out.lies hsm1).mono ?_; rintro e w6 ⟨rfl, hb⟩
    have B6 := hidH (B5.out.trans (hb.mono B5.out.size))
    have X_6 := hidH (X_5.out.below hb)
    have Y_6 := hidH (Y_5.out.below hb)
    clear hb B5 X_5 Y_5
    go_wp2
    go_ret
    exact ⟨rfl, B6.out⟩
end Go.Proofs.YtmejfkjbdokdaaaDoor
