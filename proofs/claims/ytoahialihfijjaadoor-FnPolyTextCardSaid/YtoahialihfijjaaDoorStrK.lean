/-
  The walk of the exact law of ParsePoly. Conditions: a text fits in memory; the library's tables and errors are as its own text lays them, and its variable MaxLen holds some number.
-/
import Derived.Test.YtoahialihfijjaaDoorStrJ
import Derived.Test.YtoahialihfijjaaDoorSlFns
import Derived.Test.YtoahialihfijjaaDoorLaid
namespace Go.Proofs.YtoahialihfijjaaDoor
set_option maxRecDepth 4000
open Go.RowKit
theorem ppA_len (s : ByteArray) : (ppA s).length ≤ 1048576 := by
  by_cases h : ppB s = true
  · have ⟨_, h7, _⟩ := (listOk_iff _ _ _).1 (ppB_pos s h).1
    rw [ppA_yes s h]
    omega
  · rw [ppA_no s (by simpa using h)]
    exact Nat.zero_le _
set_option maxHeartbeats 1000000 in
theorem exParsePoly (s : ByteArray) (w : World) (hs : s.size ≤ maxLen) (hT : PowT w) (hE : ErrT w) (hM : MaxT w) : Calls Tryd.prog 5 #[.string s] w (Gives (.bool true) w) := by
  unfold maxLen at hs
  by_cases hbig : 1048576 < s.size
  · go_enter Tryd.func5, Tryd.ntmps5
    go_wp2
    go_ret
    exact ⟨rfl, Below.refl _ _⟩
  · have hsm : s.size ≤ 1048576 := by omega
    have HS := hidH fun W => sParsePoly_any s W hsm
    have HI := hidH fun (W : World) (hb : Below w.heap.size w W) => parsePoly_any s W hsm (hT.below hb) (hE.below hb) (hM.below hb)
    have hlen := ppA_len s
    clear hT hE hM
    generalize ppA s = rs at *
    generalize ppB s = rb at *
    go_enter Tryd.func5, Tryd.ntmps5
    have B0 := hidH (Below.refl w.heap.size w)
    go_wp2_with fail
    refine (HS.out _).mono ?_; rintro e w1 ⟨u, rfl, hr, hb⟩
    have B1 := hidH (B0.out.trans (hb.mono B0.out.size))
    have s1 := hb.size
    have W_1 := hidH hr
    clear hb hr
    clear B0 
    go_wp2_with fail
    refine (HI.out _ B1.out).mono ?_; rintro e w2 ⟨g, rfl, hr, hb⟩
    have B2 := hidH (B1.out.trans (hb.mono B1.out.size))
    have s2 := hb.size
    have W_2 := hidH (W_1.out.below hb)
    have G_2 := hidH hr
    clear hb hr
    clear B1 W_1
    go_wp2_with fail
    refine (eqInts_yes g u rs _ _ _ _ _ G_2.out.lies W_2.out.lies).mono ?_; rintro e w3 ⟨rfl, hb⟩
    have B3 := hidH (B2.out.trans (hb.mono B2.out.size))
    have s3 := hb.size
    have W_3 := hidH (W_2.out.below hb)
    have G_3 := hidH (G_2.out.below hb)
    clear hb
    clear B2 W_2 G_2
    go_wp2_with fail
    refine (mark_any g rs 1 _ _ _ G_3.out (by omega) (by omega) hlen).mono ?_; rintro e w4 ⟨rfl, hr, ha⟩
    have s4 := ha.size
    have B4 := hidH (B3.out.trans (ha.below (by have := B3.out.size; omega) B3.out.size))
    have W_4 := hidH (W_3.out.apart ha (by omega))
    have G_4 := hidH hr
    clear ha hr
    clear B3 W_3 G_3
    go_wp2_with fail
    refine (held_any g 1 rs.length _ _ _ G_4.out.lies (by omega) (by omega) hlen).mono ?_; rintro e w5 ⟨rfl, hb⟩
    have B5 := hidH (B4.out.trans (hb.mono B4.out.size))
    have s5 := hb.size
    have W_5 := hidH (W_4.out.below hb)
    have G_5 := hidH (G_4.out.below hb)
    clear hb
    clear B4 W_4 G_4
    go_wp2_with fail
    refine (HI.out _ B5.out).mono ?_; rintro e w6 ⟨h, rfl, hr, hb⟩
    have B6 := hidH (B5.out.trans (hb.mono B5.out.size))
    have s6 := hb.size
    have W_6 := hidH (W_5.out.below hb)
    have G_6 := hidH (G_5.out.below hb)
    have H_6 := hidH hr
    clear hb hr
    clear B5 W_5 G_5
    go_wp2_with fail
    refine (eqInts_yes h u rs _ _ _ _ _ H_6.out.lies W_6.out.lies).mono ?_; rintro e w7 ⟨rfl, hb⟩
    have B7 := hidH (B6.out.trans (hb.mono B6.out.size))
    have s7 := hb.size
    have W_7 := hidH (W_6.out.below hb)
    have G_7 := hidH (G_6.out.below hb)
    have H_7 := hidH (H_6.out.below hb)
    clear hb
    clear B6 W_6 G_6 H_6
    go_wp2_with fail
    refine (held_any g 1 rs.length _ _ _ G_7.out.lies (by omega) (by omega) hlen).mono ?_; rintro e w8 ⟨rfl, hb⟩
    have B8 := hidH (B7.out.trans (hb.mono B7.out.size))
    have s8 := hb.size
    have W_8 := hidH (W_7.out.below hb)
    have G_8 := hidH (G_7.out.below hb)
    have H_8 := hidH (H_7.out.below hb)
    clear hb
    clear B7 W_7 G_7 H_7
    go_wp2
    go_ret
    exact ⟨rfl, B8.out⟩
end Go.Proofs.YtoahialihfijjaaDoor
