/-
  The walk of the exact law of ReadStereotype. Condition: texts that fit in memory.
-/
import Derived.Test.YtihjfbjbfegkjaaDoorLnzC
namespace Go.Proofs.YtihjfbjbfegkjaaDoor
set_option maxRecDepth 4000
open Go.RowKit
theorem rdL_len (cs : List ByteArray) : (rdL cs).length ≤ cs.length := by
  unfold rdL
  split
  · unfold unP; rw [List.length_map]; exact Nat.le_refl _
  · exact Nat.zero_le _
set_option maxHeartbeats 1600000 in
theorem exReadStereotype (v0 : Value) (cs0 : List ByteArray) (w : World) (hv0 : LiesS w 0 w.heap.size v0 cs0) (hm0 : ∀ c ∈ cs0, c.size ≤ 9223372036854775807) : Calls Tryd.prog 7 #[v0] w (Gives (.bool true) w) := by
  have HV0 := hidH hv0
  have HM0 := hidH hm0
  obtain ⟨a0, cap0, rfl⟩ := hv0.some
  clear hv0 hm0
  go_enter Tryd.func7, Tryd.ntmps7
  go_wp2_with fail
  refine (szTexts_any _ cs0 1048576 _ _ _ HV0.out HM0.out (by omega)).mono ?_; rintro e w1 ⟨r, rfl, hr, hb⟩
  have B1 := hidH hb
  have s1 := hb.size
  clear hb
  rcases hr with rfl | ⟨⟨m, rfl, _⟩, hn0, hz0⟩
  · go_wp2
    go_ret
    exact ⟨rfl, B1.out⟩
  have HT := hidH (fun W (hb : Below w.heap.size w W) => toTexts_any (.slice a0 cs0.length cap0) cs0 W ((HV0.out.below hb).mono (Nat.le_refl _) hb.size) hn0)
  have HZ0 := hidH hz0
  clear hz0
  have HSP := hidH (fun W t lo hi (h : LiesS W lo hi t cs0) => sReadSt_any t cs0 W lo hi h HZ0.out hn0)
  have HIM := hidH (fun W t lo hi (h : LiesS W lo hi t cs0) => readSt_any t cs0 W lo hi h HM0.out hn0)
  have hlen := rdL_len cs0
  generalize hrs : rdL cs0 = rs at *
  clear hrs
  generalize hrb : rdOk cs0 = rb at *
  clear hrb
  go_wp2_with fail
  refine (HT.out _ B1.out).mono ?_; rintro e w2 ⟨t, rfl, hr, hb⟩
  have B2 := hidH (bThen B1.out hb)
  have s2 := hb.size
  have T_2 := hidH hr
  clear hb B1  hr
  go_wp2_with fail
  refine (HSP.out _ _ _ _ T_2.out.lies).mono ?_; rintro e w3 ⟨u, rfl, hr, hb⟩
  have B3 := hidH (bThen B2.out hb)
  have s3 := hb.size
  have T_3 := hidH (T_2.out.below hb)
  have W_3 := hidH hr
  clear hb B2 T_2 hr
  clear T_3
  go_wp2_with fail
  refine (HT.out _ B3.out).mono ?_; rintro e w4 ⟨x, rfl, hr, hb⟩
  have B4 := hidH (bThen B3.out hb)
  have s4 := hb.size
  have W_4 := hidH (W_3.out.below hb)
  have X_4 := hidH hr
  clear hb B3 W_3 hr
  go_wp2_with fail
  refine (HIM.out _ _ _ _ X_4.out.lies).mono ?_; rintro e w5 ⟨g, rfl, hr, hb⟩
  have B5 := hidH (bThen B4.out hb)
  have s5 := hb.size
  have W_5 := hidH (W_4.out.below hb)
  have X_5 := hidH (X_4.out.below hb)
  have G_5 := hidH hr
  clear hb B4 W_4 X_4 hr
  go_wp2_with fail
  refine (eqTexts_yes _ _ rs _ _ _ _ _ G_5.out.lies W_5.out.lies).mono ?_; rintro e w6 ⟨rfl, hb⟩
  have B6 := hidH (bThen B5.out hb)
  have s6 := hb.size
  have W_6 := hidH (W_5.out.below hb)
  have X_6 := hidH (X_5.out.below hb)
  have G_6 := hidH (G_5.out.below hb)
  clear hb B5 W_5 X_5 G_5
  go_wp2_with fail
  refine (HT.out _ B6.out).mono ?_; rintro e w7 ⟨y, rfl, hr, hb⟩
  have B7 := hidH (bThen B6.out hb)
  have s7 := hb.size
  have W_7 := hidH (W_6.out.below hb)
  have X_7 := hidH (X_6.out.below hb)
  have G_7 := hidH (G_6.out.below hb)
  have Y_7 := hidH hr
  clear hb B6 W_6 X_6 G_6 hr
  go_wp2_with fail
  refine (eqTexts_yes _ _ cs0 _ _ _ _ _ X_7.out.lies Y_7.out.lies).mono ?_; rintro e w8 ⟨rfl, hb⟩
  have B8 := hidH (bThen B7.out hb)
  have s8 := hb.size
  have W_8 := hidH (W_7.out.below hb)
  have X_8 := hidH (X_7.out.below hb)
  have G_8 := hidH (G_7.out.below hb)
  have Y_8 := hidH (Y_7.out.below hb)
  clear hb B7 W_7 X_7 G_7 Y_7
  clear Y_8
  go_wp2_with fail
  refine (markTexts_any x cs0 1 _ _ _ X_8.out (by omega) (by omega) hn0).mono ?_; rintro e w9 ⟨rfl, hr, ha⟩
  have s9 := ha.size
  have B9 := hidH (B8.out.trans (ha.below (by have := B8.out.size; omega) B8.out.size))
  have W_9 := hidH (W_8.out.apart ha (by omega))
  have G_9 := hidH (G_8.out.apart ha (by omega))
  have X_9 := hidH hr
  clear ha B8 W_8 X_8 G_8 hr
  clear X_9
  go_wp2_with fail
  refine (eqTexts_yes _ _ rs _ _ _ _ _ G_9.out.lies W_9.out.lies).mono ?_; rintro e w10 ⟨rfl, hb⟩
  have B10 := hidH (bThen B9.out hb)
  have s10 := hb.size
  have W_10 := hidH (W_9.out.below hb)
  have G_10 := hidH (G_9.out.below hb)
  clear hb B9 W_9 G_9
  go_wp2_with fail
  refine (markTexts_any g rs 1 _ _ _ G_10.out (by omega) (by omega) (by omega)).mono ?_; rintro e w11 ⟨rfl, hr, ha⟩
  have s11 := ha.size
  have B11 := hidH (B10.out.trans (ha.below (by have := B10.out.size; omega) B10.out.size))
  have W_11 := hidH (W_10.out.apart ha (by omega))
  have G_11 := hidH hr
  clear ha B10 W_10 G_10 hr
  go_wp2_with fail
  refine (heldTexts_any g 1 rs.length _ _ _ G_11.out.lies (by omega) (by omega) (by omega)).mono ?_; rintro e w12 ⟨rfl, hb⟩
  have B12 := hidH (bThen B11.out hb)
  have s12 := hb.size
  have W_12 := hidH (W_11.out.below hb)
  have G_12 := hidH (G_11.out.below hb)
  clear hb B11 W_11 G_11
  go_wp2_with fail
  refine (HT.out _ B12.out).mono ?_; rintro e w13 ⟨t_, rfl, hr, hb⟩
  have B13 := hidH (bThen B12.out hb)
  have s13 := hb.size
  have W_13 := hidH (W_12.out.below hb)
  have G_13 := hidH (G_12.out.below hb)
  have T_13 := hidH hr
  clear hb B12 W_12 G_12 hr
  go_wp2_with fail
  refine (HIM.out _ _ _ _ T_13.out.lies).mono ?_; rintro e w14 ⟨h, rfl, hr, hb⟩
  have B14 := hidH (bThen B13.out hb)
  have s14 := hb.size
  have W_14 := hidH (W_13.out.below hb)
  have G_14 := hidH (G_13.out.below hb)
  have T_14 := hidH (T_13.out.below hb)
  have H_14 := hidH hr
  clear hb B13 W_13 G_13 T_13 hr
  clear T_14
  go_wp2_with fail
  refine (eqTexts_yes _ _ rs _ _ _ _ _ H_14.out.lies W_14.out.lies).mono ?_; rintro e w15 ⟨rfl, hb⟩
  have B15 := hidH (bThen B14.out hb)
  have s15 := hb.size
  have W_15 := hidH (W_14.out.below hb)
  have G_15 := hidH (G_14.out.below hb)
  have H_15 := hidH (H_14.out.below hb)
  clear hb B14 W_14 G_14 H_14
  go_wp2_with fail
  refine (heldTexts_any g 1 rs.length _ _ _ G_15.out.lies (by omega) (by omega) (by omega)).mono ?_; rintro e w16 ⟨rfl, hb⟩
  have B16 := hidH (bThen B15.out hb)
  have s16 := hb.size
  have W_16 := hidH (W_15.out.below hb)
  have G_16 := hidH (G_15.out.below hb)
  have H_16 := hidH (H_15.out.below hb)
  clear hb B15 W_15 G_15 H_15
  go_wp2_with fail
  go_ret
  exact ⟨rfl, B16.out⟩
end Go.Proofs.YtihjfbjbfegkjaaDoor
