/-
  The walk of the exact law of SplitSegment. No conditions but that slices fit in memory.
-/
import Derived.Test.YtpkieconbfgbdaaSplD
import Derived.Test.YtpkieconbfgbdaaPlfV
namespace Go.Proofs.Ytpkieconbfgbdaa
set_option maxRecDepth 4000
open Go.RowKit
theorem split_any2 (v : Value) (cs : List (Int × List Int)) (i a : Int) (w : World) (h1 : Nat) (hv : LiesSg w h1 v cs) (hn : cs.length ≤ 1048576) (_ : ∀ c zs, (c, zs) ∈ cs → zs.length ≤ 1048576) : Calls Try.prog 23 #[v, .int .i64 i, .int .i64 a] w (NewApB (splitA cs i a) (splitB cs i a) w) := split_any v cs i a w h1 hv hn
theorem splitA_tot (cs : List (Int × List Int)) (i a : Int) : totS (splitA cs i a) ≤ 1048576 := by
  obtain ⟨h1, h2⟩ := splitA_len cs i a
  have h3 := lenS_le (splitA cs i a) 7 h2
  unfold totS
  omega
set_option maxHeartbeats 1600000 in
theorem exSplitSegment (v : Value) (cs : List (Int × List Int)) (n1 : Int) (n2 : Int) (w : World) (hv : LiesSg w w.heap.size v cs) : Calls Try.prog 6 #[v, .int .i64 n1, .int .i64 n2] w (Gives (.bool true) w) := by
  have HV := hidH hv
  obtain ⟨a, cap, rfl, hlc, hcm⟩ := hv.len
  unfold maxLen at hcm
  clear hv
  go_enter Try.func6, Try.ntmps6
  go_wp2_with fail
  refine (szSgT_any _ cs 1048576 _ _ HV.out (Nat.le_refl _)).mono ?_; rintro e w1 ⟨r, rfl, hr, hb⟩
  have B1 := hidH hb
  have s1 := hb.size
  clear hb
  rcases hr with rfl | ⟨⟨m, rfl, hm⟩, hT⟩
  · go_wp2_with fail
    go_ret
    exact ⟨rfl, B1.out⟩
  have hl1 : cs.length ≤ 1048576 := by unfold totS at hT; omega
  have HL2 := hidH (fun c zs (hm : (c, zs) ∈ cs) => show zs.length ≤ 1048576 from by have := lenS_mem hm; unfold totS at hT; omega)
  go_wp2_with fail
  refine (toSgs_any _ cs _ ((HV.out.below B1.out).mono B1.out.size) hl1 HL2.out).mono ?_; rintro e w2 ⟨t, rfl, hr, hb⟩
  have B2 := hidH (bThen B1.out hb)
  have s2 := hb.size
  have T_2 := hidH hr
  clear hb B1  hr
  go_wp2_with fail
  refine (sSplit_any _ cs n1 n2 _ _ T_2.out.lies hl1 HL2.out).mono ?_; rintro e w3 ⟨u, rfl, hr, hb⟩
  have B3 := hidH (bThen B2.out hb)
  have s3 := hb.size
  have T_3 := hidH (T_2.out.below hb)
  have W_3 := hidH hr
  clear hb B2 T_2 hr
  clear T_3
  go_wp2_with fail
  refine (toSgs_any _ cs _ ((HV.out.below B3.out).mono B3.out.size) hl1 HL2.out).mono ?_; rintro e w4 ⟨x, rfl, hr, hb⟩
  have B4 := hidH (bThen B3.out hb)
  have s4 := hb.size
  have W_4 := hidH (W_3.out.below hb)
  have X_4 := hidH hr
  clear hb B3 W_3 hr
  go_wp2_with fail
  refine (split_any2 _ cs n1 n2 _ _ X_4.out.lies hl1 HL2.out).mono ?_; rintro e w5 ⟨g, rfl, hr, hb⟩
  have B5 := hidH (bThen B4.out hb)
  have s5 := hb.size
  have W_5 := hidH (W_4.out.below hb)
  have X_5 := hidH (X_4.out.below hb)
  have G_5 := hidH hr
  clear hb B4 W_4 X_4 hr
  have hlen := splitA_tot cs n1 n2
  have hlen1 := show (splitA cs n1 n2).length ≤ 1048576 from by have := hlen; unfold totS at this; omega
  generalize hrs : (splitA cs n1 n2) = rs at *
  have HRS := hidH hrs
  clear hrs
  generalize hrb : (splitB cs n1 n2) = rb at *
  have HRB := hidH hrb
  clear hrb
  go_wp2_with fail
  refine (eqSg_yes g u rs _ _ _ G_5.out.lies W_5.out.lies hlen1).mono ?_; rintro e w6 ⟨rfl, hb⟩
  have B6 := hidH (bThen B5.out hb)
  have s6 := hb.size
  have W_6 := hidH (W_5.out.below hb)
  have X_6 := hidH (X_5.out.below hb)
  have G_6 := hidH (G_5.out.below hb)
  clear hb B5 W_5 X_5 G_5
  go_wp2_with fail
  refine (toSgs_any _ cs _ ((HV.out.below B6.out).mono B6.out.size) hl1 HL2.out).mono ?_; rintro e w7 ⟨y, rfl, hr, hb⟩
  have B7 := hidH (bThen B6.out hb)
  have s7 := hb.size
  have W_7 := hidH (W_6.out.below hb)
  have X_7 := hidH (X_6.out.below hb)
  have G_7 := hidH (G_6.out.below hb)
  have Y_7 := hidH hr
  clear hb B6 W_6 X_6 G_6 hr
  go_wp2_with fail
  refine (eqSg_yes x y cs _ _ _ X_7.out.lies Y_7.out.lies hl1).mono ?_; rintro e w8 ⟨rfl, hb⟩
  have B8 := hidH (bThen B7.out hb)
  have s8 := hb.size
  have W_8 := hidH (W_7.out.below hb)
  have X_8 := hidH (X_7.out.below hb)
  have G_8 := hidH (G_7.out.below hb)
  have Y_8 := hidH (Y_7.out.below hb)
  clear hb B7 W_7 X_7 G_7 Y_7
  clear Y_8
  go_wp2_with fail
  refine (markAp_any x cs 1 _ _ _ X_8.out.ap (by omega) (by omega) hT).mono ?_; rintro e w9 ⟨rfl, hr, ha⟩
  have s9 := ha.size
  have B9 := hidH (B8.out.trans (ha.below (by have := B8.out.size; omega) B8.out.size))
  have W_9 := hidH (W_8.out.apart ha (by omega))
  have G_9 := hidH (G_8.out.apart ha (by omega))
  have X_9 := hidH hr
  clear ha B8 W_8 X_8 G_8 hr
  clear X_9
  go_wp2_with fail
  refine (eqSg_yes g u rs _ _ _ G_9.out.lies W_9.out.lies hlen1).mono ?_; rintro e w10 ⟨rfl, hb⟩
  have B10 := hidH (bThen B9.out hb)
  have s10 := hb.size
  have W_10 := hidH (W_9.out.below hb)
  have G_10 := hidH (G_9.out.below hb)
  clear hb B9 W_9 G_9
  go_wp2_with fail
  refine (markAp_any g rs 1 _ _ _ G_10.out (by omega) (by omega) hlen).mono ?_; rintro e w11 ⟨rfl, hr, ha⟩
  have s11 := ha.size
  have B11 := hidH (B10.out.trans (ha.below (by have := B10.out.size; omega) B10.out.size))
  have W_11 := hidH (W_10.out.apart ha (by omega))
  have G_11 := hidH hr
  clear ha B10 W_10 G_10 hr
  go_wp2_with fail
  refine (heldSg_any g rs 1 _ _ G_11.out.lies (by omega) (by omega) hlen).mono ?_; rintro e w12 ⟨rfl, hb⟩
  have B12 := hidH (bThen B11.out hb)
  have s12 := hb.size
  have W_12 := hidH (W_11.out.below hb)
  have G_12 := hidH (G_11.out.below hb)
  clear hb B11 W_11 G_11
  go_wp2_with fail
  refine (toSgs_any _ cs _ ((HV.out.below B12.out).mono B12.out.size) hl1 HL2.out).mono ?_; rintro e w13 ⟨t2, rfl, hr, hb⟩
  have B13 := hidH (bThen B12.out hb)
  have s13 := hb.size
  have W_13 := hidH (W_12.out.below hb)
  have G_13 := hidH (G_12.out.below hb)
  have T_13 := hidH hr
  clear hb B12 W_12 G_12 hr
  go_wp2_with fail
  refine (split_any2 _ cs n1 n2 _ _ T_13.out.lies hl1 HL2.out).mono ?_; rintro e w14 ⟨h, rfl, hr, hb⟩
  rw [HRS.out] at hr
  rw [HRB.out]
  have B14 := hidH (bThen B13.out hb)
  have s14 := hb.size
  have W_14 := hidH (W_13.out.below hb)
  have G_14 := hidH (G_13.out.below hb)
  have T_14 := hidH (T_13.out.below hb)
  have H_14 := hidH hr
  clear hb B13 W_13 G_13 T_13 hr
  go_wp2_with fail
  refine (eqSg_yes h u rs _ _ _ H_14.out.lies W_14.out.lies hlen1).mono ?_; rintro e w15 ⟨rfl, hb⟩
  have B15 := hidH (bThen B14.out hb)
  have s15 := hb.size
  have W_15 := hidH (W_14.out.below hb)
  have G_15 := hidH (G_14.out.below hb)
  have T_15 := hidH (T_14.out.below hb)
  have H_15 := hidH (H_14.out.below hb)
  clear hb B14 W_14 G_14 T_14 H_14
  go_wp2_with fail
  refine (heldSg_any g rs 1 _ _ G_15.out.lies (by omega) (by omega) hlen).mono ?_; rintro e w16 ⟨rfl, hb⟩
  have B16 := hidH (bThen B15.out hb)
  have s16 := hb.size
  have W_16 := hidH (W_15.out.below hb)
  have G_16 := hidH (G_15.out.below hb)
  have T_16 := hidH (T_15.out.below hb)
  have H_16 := hidH (H_15.out.below hb)
  clear hb B15 W_15 G_15 T_15 H_15
  go_wp2_with fail
  go_ret
  exact ⟨rfl, B16.out⟩
end Go.Proofs.Ytpkieconbfgbdaa
