/-
  The walk of the exact law of SegmentOf. No conditions but that slices fit in memory.
-/
import Derived.Test.YtfflkbfdognigaaPlanD
namespace Go.Proofs.Ytfflkbfdognigaa
set_option maxRecDepth 4000
open Go.RowKit
set_option maxHeartbeats 4000000 in
theorem exSegmentOf (v0 : Value) (zs0 : List Int) (n1 n2 n3 : Int) (w : World) (hv0 : Lies w 0 w.heap.size v0 zs0) : Calls Try.prog 4 #[v0, .int .i64 n1, .int .i64 n2, .int .i64 n3] w (Gives (.bool true) w) := by
  have HV0 := hidH hv0
  obtain ⟨a0, cap0, rfl, hlc0, hcm0, hnil0, hcell0⟩ := hv0
  clear hnil0 hcell0
  unfold maxLen at hcm0
  by_cases hbig0 : 1048576 < zs0.length
  · go_enter Try.func4, Try.ntmps4
    go_wp2
    go_ret
    exact ⟨rfl, Below.refl _ _⟩
  · have hsm0 : zs0.length ≤ 1048576 := by omega
    clear hbig0
    have hlen := segP_len zs0 n1 n2 n3
    have HSP := hidH (fun W v lo hi h => sSegOf_any v zs0 n1 n2 n3 W lo hi h)
    have HIM := hidH (fun W v lo hi h => segOf_any v zs0 n1 n2 n3 W lo hi h)
    generalize segC zs0 n1 n2 n3 = rc at *
    generalize segP zs0 n1 n2 n3 = rs at *
    generalize segB zs0 n1 n2 n3 = rb at *
    have B_0 := hidH (Below.refl w.heap.size w)
    have S_0 := hidH (Nat.le_refl w.heap.size)
    go_enter Try.func4, Try.ntmps4
    go_wp2_with fail
    refine (toInts_any _ zs0 _ ((HV0.out.below B_0.out).mono (Nat.le_refl _) B_0.out.size) hsm0).mono ?_; rintro e w1 ⟨t, rfl, hr, hb⟩
    have B_1 := hidH (bThen B_0.out hb)
    have S_1 := hidH hb.size
    have T_1 := hidH hr
    clear hb hr
    clear B_0 
    go_wp2_with fail
    refine (HSP.out _ _ _ _ T_1.out.lies).mono ?_; rintro e w2 ⟨u, rfl, hr, hb⟩
    have B_2 := hidH (bThen B_1.out hb)
    have T_2 := hidH (T_1.out.below hb)
    have S_2 := hidH hb.size
    have W_2 := hidH hr
    clear hb hr
    clear B_1 T_1
    clear T_2
    obtain ⟨ua, uc, rfl⟩ := W_2.out.some
    have B_3 := hidH (bMore B_2.out (.cells #[.int .i64 rc, .slice ua rs.length uc] 28))
    have S_3 : Hid (w2.heap.size + 1 ≤ (w2.alloc (.cells #[.int .i64 rc, .slice ua rs.length uc] 28)).heap.size) := hidH (by simp)
    have W_3 := hidH (W_2.out.below (bMore (Below.refl _ _) (.cells #[.int .i64 rc, .slice ua rs.length uc] 28)))
    have EW_3 := hidH (SegAt.fresh w2 rc (.slice ua rs.length uc))
    clear B_2 W_2
    go_wp2_with fail
    refine (toInts_any _ zs0 _ ((HV0.out.below B_3.out).mono (Nat.le_refl _) B_3.out.size) hsm0).mono ?_; rintro e w3 ⟨x, rfl, hr, hb⟩
    have B_4 := hidH (bThen B_3.out hb)
    have W_4 := hidH (W_3.out.below hb)
    have EW_4 := hidH (EW_3.out.below hb)
    have S_4 := hidH hb.size
    have X_4 := hidH hr
    clear hb hr
    clear B_3 W_3 EW_3
    go_wp2_with fail
    refine (HIM.out _ _ _ _ X_4.out.lies).mono ?_; rintro e w4 ⟨g, rfl, hr, hb⟩
    have B_5 := hidH (bThen B_4.out hb)
    have W_5 := hidH (W_4.out.below hb)
    have X_5 := hidH (X_4.out.below hb)
    have EW_5 := hidH (EW_4.out.below hb)
    have S_5 := hidH hb.size
    have G_5 := hidH hr
    clear hb hr
    clear B_4 W_4 X_4 EW_4
    obtain ⟨ga, gc, rfl⟩ := G_5.out.some
    have B_6 := hidH (bMore B_5.out (.cells #[.int .i64 rc, .slice ga rs.length gc] 28))
    have S_6 : Hid (w4.heap.size + 1 ≤ (w4.alloc (.cells #[.int .i64 rc, .slice ga rs.length gc] 28)).heap.size) := hidH (by simp)
    have W_6 := hidH (W_5.out.below (bMore (Below.refl _ _) (.cells #[.int .i64 rc, .slice ga rs.length gc] 28)))
    have X_6 := hidH (X_5.out.below (bMore (Below.refl _ _) (.cells #[.int .i64 rc, .slice ga rs.length gc] 28)))
    have G_6 := hidH (G_5.out.below (bMore (Below.refl _ _) (.cells #[.int .i64 rc, .slice ga rs.length gc] 28)))
    have EW_6 := hidH (EW_5.out.below (bMore (Below.refl _ _) (.cells #[.int .i64 rc, .slice ga rs.length gc] 28)))
    have EG_6 := hidH (SegAt.fresh w4 rc (.slice ga rs.length gc))
    clear B_5 W_5 X_5 G_5 EW_5
    have cW0 := EW_6.out.cell0
    have cW1 := EW_6.out.cell1
    have cG0 := EG_6.out.cell0
    have cG1 := EG_6.out.cell1
    go_wp2_with fail
    refine (eqSeg_yes rc _ _ rs _ _ _ _ _ G_6.out.lies W_6.out.lies).mono ?_; rintro e w5 ⟨rfl, hb⟩
    have B_7 := hidH (bThen B_6.out hb)
    have W_7 := hidH (W_6.out.below hb)
    have X_7 := hidH (X_6.out.below hb)
    have G_7 := hidH (G_6.out.below hb)
    have EW_7 := hidH (EW_6.out.below hb)
    have EG_7 := hidH (EG_6.out.below hb)
    have S_7 := hidH hb.size
    clear hb
    clear B_6 W_6 X_6 G_6 EW_6 EG_6
    clear cW0 cW1 cG0 cG1
    go_wp2_with fail
    refine (toInts_any _ zs0 _ ((HV0.out.below B_7.out).mono (Nat.le_refl _) B_7.out.size) hsm0).mono ?_; rintro e w6 ⟨y, rfl, hr, hb⟩
    have B_8 := hidH (bThen B_7.out hb)
    have W_8 := hidH (W_7.out.below hb)
    have X_8 := hidH (X_7.out.below hb)
    have G_8 := hidH (G_7.out.below hb)
    have EW_8 := hidH (EW_7.out.below hb)
    have EG_8 := hidH (EG_7.out.below hb)
    have S_8 := hidH hb.size
    have Y_8 := hidH hr
    clear hb hr
    clear B_7 W_7 X_7 G_7 EW_7 EG_7
    go_wp2_with fail
    refine (eqInts_yes x y zs0 _ _ _ _ _ X_8.out.lies Y_8.out.lies).mono ?_; rintro e w7 ⟨rfl, hb⟩
    have B_9 := hidH (bThen B_8.out hb)
    have W_9 := hidH (W_8.out.below hb)
    have X_9 := hidH (X_8.out.below hb)
    have G_9 := hidH (G_8.out.below hb)
    have Y_9 := hidH (Y_8.out.below hb)
    have EW_9 := hidH (EW_8.out.below hb)
    have EG_9 := hidH (EG_8.out.below hb)
    have S_9 := hidH hb.size
    clear hb
    clear B_8 W_8 X_8 G_8 Y_8 EW_8 EG_8
    clear Y_9
    go_wp2_with fail
    refine (mark_any x zs0 1 _ _ _ X_9.out (by omega) (by omega) hsm0).mono ?_; rintro e w8 ⟨rfl, hr, ha⟩
    have B_10 := hidH (B_9.out.trans (ha.below (by have z0 := S_0.out; have z1 := S_1.out; have z2 := S_2.out; have z3 := S_3.out; have z4 := S_4.out; have z5 := S_5.out; have z6 := S_6.out; have z7 := S_7.out; have z8 := S_8.out; have z9 := S_9.out; have := B_9.out.size; omega) B_9.out.size))
    have W_10 := hidH (W_9.out.apart ha (by have z0 := S_0.out; have z1 := S_1.out; have z2 := S_2.out; have z3 := S_3.out; have z4 := S_4.out; have z5 := S_5.out; have z6 := S_6.out; have z7 := S_7.out; have z8 := S_8.out; have z9 := S_9.out; omega))
    have G_10 := hidH (G_9.out.apart ha (by have z0 := S_0.out; have z1 := S_1.out; have z2 := S_2.out; have z3 := S_3.out; have z4 := S_4.out; have z5 := S_5.out; have z6 := S_6.out; have z7 := S_7.out; have z8 := S_8.out; have z9 := S_9.out; omega))
    have EW_10 := hidH (EW_9.out.apart ha (by have z0 := S_0.out; have z1 := S_1.out; have z2 := S_2.out; have z3 := S_3.out; have z4 := S_4.out; have z5 := S_5.out; have z6 := S_6.out; have z7 := S_7.out; have z8 := S_8.out; have z9 := S_9.out; have z2 := EW_9.out.lt; omega))
    have EG_10 := hidH (EG_9.out.apart ha (by have z0 := S_0.out; have z1 := S_1.out; have z2 := S_2.out; have z3 := S_3.out; have z4 := S_4.out; have z5 := S_5.out; have z6 := S_6.out; have z7 := S_7.out; have z8 := S_8.out; have z9 := S_9.out; have z2 := EG_9.out.lt; omega))
    have X_10 := hidH hr
    have S_10 := hidH ha.size
    clear ha hr
    clear B_9 W_9 X_9 G_9 EW_9 EG_9
    clear X_10
    have cW0 := EW_10.out.cell0
    have cW1 := EW_10.out.cell1
    have cG0 := EG_10.out.cell0
    have cG1 := EG_10.out.cell1
    go_wp2_with fail
    refine (eqSeg_yes rc _ _ rs _ _ _ _ _ G_10.out.lies W_10.out.lies).mono ?_; rintro e w9 ⟨rfl, hb⟩
    have B_11 := hidH (bThen B_10.out hb)
    have W_11 := hidH (W_10.out.below hb)
    have G_11 := hidH (G_10.out.below hb)
    have EW_11 := hidH (EW_10.out.below hb)
    have EG_11 := hidH (EG_10.out.below hb)
    have S_11 := hidH hb.size
    clear hb
    clear B_10 W_10 G_10 EW_10 EG_10
    clear cW0 cW1 cG0 cG1
    have cW0 := EW_11.out.cell0
    have cW1 := EW_11.out.cell1
    have cG0 := EG_11.out.cell0
    have cG1 := EG_11.out.cell1
    go_wp2_with fail
    refine (markSeg_any rc _ rs 1 _ _ _ G_11.out (by omega) (by omega) hlen).mono ?_; rintro e w10 ⟨rfl, hr, ha⟩
    have B_12 := hidH (B_11.out.trans (ha.below (by have z0 := S_0.out; have z1 := S_1.out; have z2 := S_2.out; have z3 := S_3.out; have z4 := S_4.out; have z5 := S_5.out; have z6 := S_6.out; have z7 := S_7.out; have z8 := S_8.out; have z9 := S_9.out; have z10 := S_10.out; have z11 := S_11.out; have := B_11.out.size; omega) B_11.out.size))
    have W_12 := hidH (W_11.out.apart ha (by have z0 := S_0.out; have z1 := S_1.out; have z2 := S_2.out; have z3 := S_3.out; have z4 := S_4.out; have z5 := S_5.out; have z6 := S_6.out; have z7 := S_7.out; have z8 := S_8.out; have z9 := S_9.out; have z10 := S_10.out; have z11 := S_11.out; omega))
    have EW_12 := hidH (EW_11.out.apart ha (by have z0 := S_0.out; have z1 := S_1.out; have z2 := S_2.out; have z3 := S_3.out; have z4 := S_4.out; have z5 := S_5.out; have z6 := S_6.out; have z7 := S_7.out; have z8 := S_8.out; have z9 := S_9.out; have z10 := S_10.out; have z11 := S_11.out; have z2 := EW_11.out.lt; omega))
    have EG_12 := hidH (EG_11.out.apart ha (by have z0 := S_0.out; have z1 := S_1.out; have z2 := S_2.out; have z3 := S_3.out; have z4 := S_4.out; have z5 := S_5.out; have z6 := S_6.out; have z7 := S_7.out; have z8 := S_8.out; have z9 := S_9.out; have z10 := S_10.out; have z11 := S_11.out; have z2 := EG_11.out.lt; omega))
    have G_12 := hidH hr
    have S_12 := hidH ha.size
    clear ha hr
    clear B_11 W_11 G_11 EW_11 EG_11
    clear cW0 cW1 cG0 cG1
    have cW0 := EW_12.out.cell0
    have cW1 := EW_12.out.cell1
    have cG0 := EG_12.out.cell0
    have cG1 := EG_12.out.cell1
    go_wp2_with fail
    refine (heldSeg_any rc _ 1 rs.length _ _ _ G_12.out.lies (by omega) (by omega) hlen).mono ?_; rintro e w11 ⟨rfl, hb⟩
    have B_13 := hidH (bThen B_12.out hb)
    have W_13 := hidH (W_12.out.below hb)
    have G_13 := hidH (G_12.out.below hb)
    have EW_13 := hidH (EW_12.out.below hb)
    have EG_13 := hidH (EG_12.out.below hb)
    have S_13 := hidH hb.size
    clear hb
    clear B_12 W_12 G_12 EW_12 EG_12
    clear cW0 cW1 cG0 cG1
    go_wp2_with fail
    refine (toInts_any _ zs0 _ ((HV0.out.below B_13.out).mono (Nat.le_refl _) B_13.out.size) hsm0).mono ?_; rintro e w12 ⟨t, rfl, hr, hb⟩
    have B_14 := hidH (bThen B_13.out hb)
    have W_14 := hidH (W_13.out.below hb)
    have G_14 := hidH (G_13.out.below hb)
    have EW_14 := hidH (EW_13.out.below hb)
    have EG_14 := hidH (EG_13.out.below hb)
    have S_14 := hidH hb.size
    have T_14 := hidH hr
    clear hb hr
    clear B_13 W_13 G_13 EW_13 EG_13
    go_wp2_with fail
    refine (HIM.out _ _ _ _ T_14.out.lies).mono ?_; rintro e w13 ⟨h, rfl, hr, hb⟩
    have B_15 := hidH (bThen B_14.out hb)
    have W_15 := hidH (W_14.out.below hb)
    have G_15 := hidH (G_14.out.below hb)
    have T_15 := hidH (T_14.out.below hb)
    have EW_15 := hidH (EW_14.out.below hb)
    have EG_15 := hidH (EG_14.out.below hb)
    have S_15 := hidH hb.size
    have H_15 := hidH hr
    clear hb hr
    clear B_14 W_14 G_14 T_14 EW_14 EG_14
    clear T_15
    obtain ⟨ha_, hc_, rfl⟩ := H_15.out.some
    have B_16 := hidH (bMore B_15.out (.cells #[.int .i64 rc, .slice ha_ rs.length hc_] 28))
    have S_16 : Hid (w13.heap.size + 1 ≤ (w13.alloc (.cells #[.int .i64 rc, .slice ha_ rs.length hc_] 28)).heap.size) := hidH (by simp)
    have W_16 := hidH (W_15.out.below (bMore (Below.refl _ _) (.cells #[.int .i64 rc, .slice ha_ rs.length hc_] 28)))
    have G_16 := hidH (G_15.out.below (bMore (Below.refl _ _) (.cells #[.int .i64 rc, .slice ha_ rs.length hc_] 28)))
    have H_16 := hidH (H_15.out.below (bMore (Below.refl _ _) (.cells #[.int .i64 rc, .slice ha_ rs.length hc_] 28)))
    have EW_16 := hidH (EW_15.out.below (bMore (Below.refl _ _) (.cells #[.int .i64 rc, .slice ha_ rs.length hc_] 28)))
    have EG_16 := hidH (EG_15.out.below (bMore (Below.refl _ _) (.cells #[.int .i64 rc, .slice ha_ rs.length hc_] 28)))
    have EH_16 := hidH (SegAt.fresh w13 rc (.slice ha_ rs.length hc_))
    clear B_15 W_15 G_15 H_15 EW_15 EG_15
    have cW0 := EW_16.out.cell0
    have cW1 := EW_16.out.cell1
    have cG0 := EG_16.out.cell0
    have cG1 := EG_16.out.cell1
    have cH0 := EH_16.out.cell0
    have cH1 := EH_16.out.cell1
    go_wp2_with fail
    refine (eqSeg_yes rc _ _ rs _ _ _ _ _ H_16.out.lies W_16.out.lies).mono ?_; rintro e w14 ⟨rfl, hb⟩
    have B_17 := hidH (bThen B_16.out hb)
    have W_17 := hidH (W_16.out.below hb)
    have G_17 := hidH (G_16.out.below hb)
    have H_17 := hidH (H_16.out.below hb)
    have EW_17 := hidH (EW_16.out.below hb)
    have EG_17 := hidH (EG_16.out.below hb)
    have EH_17 := hidH (EH_16.out.below hb)
    have S_17 := hidH hb.size
    clear hb
    clear B_16 W_16 G_16 H_16 EW_16 EG_16 EH_16
    clear cW0 cW1 cG0 cG1 cH0 cH1
    have cW0 := EW_17.out.cell0
    have cW1 := EW_17.out.cell1
    have cG0 := EG_17.out.cell0
    have cG1 := EG_17.out.cell1
    have cH0 := EH_17.out.cell0
    have cH1 := EH_17.out.cell1
    go_wp2_with fail
    refine (heldSeg_any rc _ 1 rs.length _ _ _ G_17.out.lies (by omega) (by omega) hlen).mono ?_; rintro e w15 ⟨rfl, hb⟩
    have B_18 := hidH (bThen B_17.out hb)
    have W_18 := hidH (W_17.out.below hb)
    have G_18 := hidH (G_17.out.below hb)
    have H_18 := hidH (H_17.out.below hb)
    have EW_18 := hidH (EW_17.out.below hb)
    have EG_18 := hidH (EG_17.out.below hb)
    have EH_18 := hidH (EH_17.out.below hb)
    have S_18 := hidH hb.size
    clear hb
    clear B_17 W_17 G_17 H_17 EW_17 EG_17 EH_17
    clear cW0 cW1 cG0 cG1 cH0 cH1
    go_wp2
    go_ret
    exact ⟨rfl, B_18.out⟩
end Go.Proofs.Ytfflkbfdognigaa
