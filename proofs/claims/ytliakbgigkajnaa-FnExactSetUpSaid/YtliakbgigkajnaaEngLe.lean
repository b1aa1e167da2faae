/-
  The walk of the exact law of SetUp. No conditions but that slices fit in memory.
-/
import Derived.Test.YtliakbgigkajnaaEngI
import Derived.Test.YtliakbgigkajnaaEngFns
import Derived.Test.YtliakbgigkajnaaSlFns
import Derived.Test.YtliakbgigkajnaaEngEx
namespace Go.Proofs.Ytliakbgigkajnaa
set_option maxRecDepth 4000
set_option linter.unusedVariables false
open Go.RowKit
set_option maxHeartbeats 4000000 in
theorem exSetUp (v0 : Value) (zs0 : List Int) (n1 n2 : Int) (w : World) (hv0 : Lies w 0 w.heap.size v0 zs0) : Calls Try.prog 3 #[v0, .int .i64 n1, .int .i64 n2] w (Gives (.bool true) w) := by
  have HV0 := hidH hv0
  obtain ⟨a0, cap0, rfl, hlc0, hcm0, hnil0, hcell0⟩ := hv0
  clear hnil0 hcell0
  unfold maxLen at hcm0
  by_cases hbig0 : 1048576 < zs0.length
  · go_enter Try.func3, Try.ntmps3
    go_wp2
    go_ret
    exact ⟨rfl, Below.refl _ _⟩
  · have hsm0 : zs0.length ≤ 1048576 := by omega
    have HSP := hidH (fun W t lo hi (h : Lies W lo hi t zs0) => sSetUp_any t zs0 n1 n2 W lo hi h)
    have HIM := hidH (fun W t lo hi (h : Lies W lo hi t zs0) => setUp_any t zs0 n1 n2 W lo hi h)
    have HT := hidH (fun W (hb : Below w.heap.size w W) => toInts_any _ zs0 W ((HV0.out.below hb).mono (Nat.le_refl _) hb.size) hsm0)
    have hrs := setL_len zs0 n1 n2
    clear hbig0
    generalize setL zs0 n1 n2 = rs at HSP HIM hrs
    generalize setB zs0 n1 n2 = rb at HSP HIM
    have B_0 := hidH (Below.refl w.heap.size w)
    have S_0 := hidH (Nat.le_refl w.heap.size)
    go_enter Try.func3, Try.ntmps3
    go_wp2_with fail
    refine (HT.out _ B_0.out).mono ?_; rintro e w1 ⟨t0, rfl, hr, hb⟩
    have S_1 := hidH hb.size
    have B_1 := hidH (bThen B_0.out hb)
    have T_1 := hidH hr
    clear hb hr
    clear B_0  
    go_wp2_with fail
    refine (HSP.out _ _ _ _ T_1.out.lies).mono ?_; rintro e w2 ⟨u, rfl, hr, hb⟩
    have S_2 := hidH hb.size
    have B_2 := hidH (bThen B_1.out hb)
    have T_2 := hidH (T_1.out.below hb)
    have W_2 := hidH hr
    clear hb hr
    clear B_1 T_1 
    obtain ⟨au, cu, rfl⟩ := W_2.out.some
    clear T_2
    have B_3 := hidH (bMore B_2.out (.cells #[.slice au rs.length cu] 25))
    have S_3 : Hid (w2.heap.size + 1 ≤ (w2.alloc (.cells #[.slice au rs.length cu] 25)).heap.size) := hidH (by simp)
    have W_3 := hidH (W_2.out.below (belowN w2 (.cells #[.slice au rs.length cu] 25)))
    have EW_3 := hidH (EngAt.fresh w2 (.slice au rs.length cu))
    clear B_2 W_2 
    have cW := EW_3.out.cell
    go_wp2_with fail
    refine (HT.out _ B_3.out).mono ?_; rintro e w3 ⟨x0, rfl, hr, hb⟩
    have S_4 := hidH hb.size
    have B_4 := hidH (bThen B_3.out hb)
    have W_4 := hidH (W_3.out.below hb)
    have EW_4 := hidH (EW_3.out.below hb)
    have X_4 := hidH hr
    clear cW
    clear hb hr
    clear B_3 W_3 EW_3
    have cW := EW_4.out.cell
    go_wp2_with fail
    refine (HIM.out _ _ _ _ X_4.out.lies).mono ?_; rintro e w4 ⟨g, rfl, hr, hb⟩
    have S_5 := hidH hb.size
    have B_5 := hidH (bThen B_4.out hb)
    have W_5 := hidH (W_4.out.below hb)
    have X_5 := hidH (X_4.out.below hb)
    have EW_5 := hidH (EW_4.out.below hb)
    have G_5 := hidH hr
    clear cW
    clear hb hr
    clear B_4 W_4 X_4 EW_4
    have cW := EW_5.out.cell
    obtain ⟨ag, cg, rfl⟩ := G_5.out.some
    have B_6 := hidH (bMore B_5.out (.cells #[.slice ag rs.length cg] 25))
    have S_6 : Hid (w4.heap.size + 1 ≤ (w4.alloc (.cells #[.slice ag rs.length cg] 25)).heap.size) := hidH (by simp)
    have W_6 := hidH (W_5.out.below (belowN w4 (.cells #[.slice ag rs.length cg] 25)))
    have X_6 := hidH (X_5.out.below (belowN w4 (.cells #[.slice ag rs.length cg] 25)))
    have G_6 := hidH (G_5.out.below (belowN w4 (.cells #[.slice ag rs.length cg] 25)))
    have EW_6 := hidH (EW_5.out.below (belowN w4 (.cells #[.slice ag rs.length cg] 25)))
    have EG_6 := hidH (EngAt.fresh w4 (.slice ag rs.length cg))
    clear cW
    clear B_5 W_5 X_5 G_5 EW_5
    have cW := EW_6.out.cell
    have cG := EG_6.out.cell
    go_wp2_with fail
    refine (eqEng_yes _ _ rs _ _ _ _ _ G_6.out.lies W_6.out.lies).mono ?_; rintro e w5 ⟨rfl, hb⟩
    have S_7 := hidH hb.size
    have B_7 := hidH (bThen B_6.out hb)
    have W_7 := hidH (W_6.out.below hb)
    have X_7 := hidH (X_6.out.below hb)
    have G_7 := hidH (G_6.out.below hb)
    have EW_7 := hidH (EW_6.out.below hb)
    have EG_7 := hidH (EG_6.out.below hb)
    clear cW cG
    clear hb
    clear B_6 W_6 X_6 G_6 EW_6 EG_6
    have cW := EW_7.out.cell
    have cG := EG_7.out.cell
    go_wp2_with fail
    refine (HT.out _ B_7.out).mono ?_; rintro e w6 ⟨y0, rfl, hr, hb⟩
    have S_8 := hidH hb.size
    have B_8 := hidH (bThen B_7.out hb)
    have W_8 := hidH (W_7.out.below hb)
    have X_8 := hidH (X_7.out.below hb)
    have G_8 := hidH (G_7.out.below hb)
    have EW_8 := hidH (EW_7.out.below hb)
    have EG_8 := hidH (EG_7.out.below hb)
    have Y_8 := hidH hr
    clear cW cG
    clear hb hr
    clear B_7 W_7 X_7 G_7 EW_7 EG_7
    have cW := EW_8.out.cell
    have cG := EG_8.out.cell
    go_wp2_with fail
    refine (eqInts_yes x0 y0 zs0 _ _ _ _ _ X_8.out.lies Y_8.out.lies).mono ?_; rintro e w7 ⟨rfl, hb⟩
    have S_9 := hidH hb.size
    have B_9 := hidH (bThen B_8.out hb)
    have W_9 := hidH (W_8.out.below hb)
    have X_9 := hidH (X_8.out.below hb)
    have G_9 := hidH (G_8.out.below hb)
    have Y_9 := hidH (Y_8.out.below hb)
    have EW_9 := hidH (EW_8.out.below hb)
    have EG_9 := hidH (EG_8.out.below hb)
    clear cW cG
    clear hb
    clear B_8 W_8 X_8 G_8 Y_8 EW_8 EG_8
    have cW := EW_9.out.cell
    have cG := EG_9.out.cell
    clear Y_9
    go_wp2_with fail
    refine (mark_any x0 zs0 1 _ _ _ X_9.out (by omega) (by omega) hsm0).mono ?_; rintro e w8 ⟨rfl, hr, ha⟩
    have S_10 := hidH ha.size
    have B_10 := hidH (B_9.out.trans (ha.below (by have z0 := S_0.out; have z1 := S_1.out; have z2 := S_2.out; have z3 := S_3.out; have z4 := S_4.out; have z5 := S_5.out; have z6 := S_6.out; have z7 := S_7.out; have z8 := S_8.out; have z9 := S_9.out; omega) B_9.out.size))
    have W_10 := hidH (W_9.out.apart ha (by have z0 := S_0.out; have z1 := S_1.out; have z2 := S_2.out; have z3 := S_3.out; have z4 := S_4.out; have z5 := S_5.out; have z6 := S_6.out; have z7 := S_7.out; have z8 := S_8.out; have z9 := S_9.out; omega))
    have G_10 := hidH (G_9.out.apart ha (by have z0 := S_0.out; have z1 := S_1.out; have z2 := S_2.out; have z3 := S_3.out; have z4 := S_4.out; have z5 := S_5.out; have z6 := S_6.out; have z7 := S_7.out; have z8 := S_8.out; have z9 := S_9.out; omega))
    have EW_10 := hidH (EW_9.out.apart ha (by have := EW_9.out.lt; have z0 := S_0.out; have z1 := S_1.out; have z2 := S_2.out; have z3 := S_3.out; have z4 := S_4.out; have z5 := S_5.out; have z6 := S_6.out; have z7 := S_7.out; have z8 := S_8.out; have z9 := S_9.out; omega))
    have EG_10 := hidH (EG_9.out.apart ha (by have := EG_9.out.lt; have z0 := S_0.out; have z1 := S_1.out; have z2 := S_2.out; have z3 := S_3.out; have z4 := S_4.out; have z5 := S_5.out; have z6 := S_6.out; have z7 := S_7.out; have z8 := S_8.out; have z9 := S_9.out; omega))
    have X_10 := hidH hr
    clear cW cG
    clear ha hr
    clear B_9 W_9 X_9 G_9 EW_9 EG_9
    have cW := EW_10.out.cell
    have cG := EG_10.out.cell
    clear X_10
    go_wp2_with fail
    refine (eqEng_yes _ _ rs _ _ _ _ _ G_10.out.lies W_10.out.lies).mono ?_; rintro e w9 ⟨rfl, hb⟩
    have S_11 := hidH hb.size
    have B_11 := hidH (bThen B_10.out hb)
    have W_11 := hidH (W_10.out.below hb)
    have G_11 := hidH (G_10.out.below hb)
    have EW_11 := hidH (EW_10.out.below hb)
    have EG_11 := hidH (EG_10.out.below hb)
    clear cW cG
    clear hb
    clear B_10 W_10 G_10 EW_10 EG_10
    have cW := EW_11.out.cell
    have cG := EG_11.out.cell
    go_wp2_with fail
    refine (markEng_any _ rs 1 _ _ _ G_11.out (by omega) (by omega) hrs).mono ?_; rintro e w10 ⟨rfl, hr, ha⟩
    have S_12 := hidH ha.size
    have B_12 := hidH (B_11.out.trans (ha.below (by have z0 := S_0.out; have z1 := S_1.out; have z2 := S_2.out; have z3 := S_3.out; have z4 := S_4.out; have z5 := S_5.out; have z6 := S_6.out; have z7 := S_7.out; have z8 := S_8.out; have z9 := S_9.out; have z10 := S_10.out; have z11 := S_11.out; omega) B_11.out.size))
    have W_12 := hidH (W_11.out.apart ha (by have z0 := S_0.out; have z1 := S_1.out; have z2 := S_2.out; have z3 := S_3.out; have z4 := S_4.out; have z5 := S_5.out; have z6 := S_6.out; have z7 := S_7.out; have z8 := S_8.out; have z9 := S_9.out; have z10 := S_10.out; have z11 := S_11.out; omega))
    have EW_12 := hidH (EW_11.out.apart ha (by have := EW_11.out.lt; have z0 := S_0.out; have z1 := S_1.out; have z2 := S_2.out; have z3 := S_3.out; have z4 := S_4.out; have z5 := S_5.out; have z6 := S_6.out; have z7 := S_7.out; have z8 := S_8.out; have z9 := S_9.out; have z10 := S_10.out; have z11 := S_11.out; omega))
    have EG_12 := hidH (EG_11.out.apart ha (by have := EG_11.out.lt; have z0 := S_0.out; have z1 := S_1.out; have z2 := S_2.out; have z3 := S_3.out; have z4 := S_4.out; have z5 := S_5.out; have z6 := S_6.out; have z7 := S_7.out; have z8 := S_8.out; have z9 := S_9.out; have z10 := S_10.out; have z11 := S_11.out; omega))
    have G_12 := hidH hr
    clear cW cG
    clear ha hr
    clear B_11 W_11 G_11 EW_11 EG_11
    have cW := EW_12.out.cell
    have cG := EG_12.out.cell
    go_wp2_with fail
    refine (heldEng_any _ 1 rs.length _ _ _ G_12.out.lies (by omega) (by omega) hrs).mono ?_; rintro e w11 ⟨rfl, hb⟩
    have S_13 := hidH hb.size
    have B_13 := hidH (bThen B_12.out hb)
    have W_13 := hidH (W_12.out.below hb)
    have G_13 := hidH (G_12.out.below hb)
    have EW_13 := hidH (EW_12.out.below hb)
    have EG_13 := hidH (EG_12.out.below hb)
    clear cW cG
    clear hb
    clear B_12 W_12 G_12 EW_12 EG_12
    have cW := EW_13.out.cell
    have cG := EG_13.out.cell
    go_wp2_with fail
    refine (HT.out _ B_13.out).mono ?_; rintro e w12 ⟨t1, rfl, hr, hb⟩
    have S_14 := hidH hb.size
    have B_14 := hidH (bThen B_13.out hb)
    have W_14 := hidH (W_13.out.below hb)
    have G_14 := hidH (G_13.out.below hb)
    have EW_14 := hidH (EW_13.out.below hb)
    have EG_14 := hidH (EG_13.out.below hb)
    have T_14 := hidH hr
    clear cW cG
    clear hb hr
    clear B_13 W_13 G_13 EW_13 EG_13
    have cW := EW_14.out.cell
    have cG := EG_14.out.cell
    go_wp2_with fail
    refine (HIM.out _ _ _ _ T_14.out.lies).mono ?_; rintro e w13 ⟨h, rfl, hr, hb⟩
    have S_15 := hidH hb.size
    have B_15 := hidH (bThen B_14.out hb)
    have W_15 := hidH (W_14.out.below hb)
    have G_15 := hidH (G_14.out.below hb)
    have T_15 := hidH (T_14.out.below hb)
    have EW_15 := hidH (EW_14.out.below hb)
    have EG_15 := hidH (EG_14.out.below hb)
    have H_15 := hidH hr
    clear cW cG
    clear hb hr
    clear B_14 W_14 G_14 T_14 EW_14 EG_14
    have cW := EW_15.out.cell
    have cG := EG_15.out.cell
    obtain ⟨ah, ch, rfl⟩ := H_15.out.some
    clear T_15
    have B_16 := hidH (bMore B_15.out (.cells #[.slice ah rs.length ch] 25))
    have S_16 : Hid (w13.heap.size + 1 ≤ (w13.alloc (.cells #[.slice ah rs.length ch] 25)).heap.size) := hidH (by simp)
    have W_16 := hidH (W_15.out.below (belowN w13 (.cells #[.slice ah rs.length ch] 25)))
    have G_16 := hidH (G_15.out.below (belowN w13 (.cells #[.slice ah rs.length ch] 25)))
    have H_16 := hidH (H_15.out.below (belowN w13 (.cells #[.slice ah rs.length ch] 25)))
    have EW_16 := hidH (EW_15.out.below (belowN w13 (.cells #[.slice ah rs.length ch] 25)))
    have EG_16 := hidH (EG_15.out.below (belowN w13 (.cells #[.slice ah rs.length ch] 25)))
    have EH_16 := hidH (EngAt.fresh w13 (.slice ah rs.length ch))
    clear cW cG
    clear B_15 W_15 G_15 H_15 EW_15 EG_15
    have cW := EW_16.out.cell
    have cG := EG_16.out.cell
    have cH := EH_16.out.cell
    go_wp2_with fail
    refine (eqEng_yes _ _ rs _ _ _ _ _ H_16.out.lies W_16.out.lies).mono ?_; rintro e w14 ⟨rfl, hb⟩
    have S_17 := hidH hb.size
    have B_17 := hidH (bThen B_16.out hb)
    have W_17 := hidH (W_16.out.below hb)
    have G_17 := hidH (G_16.out.below hb)
    have H_17 := hidH (H_16.out.below hb)
    have EW_17 := hidH (EW_16.out.below hb)
    have EG_17 := hidH (EG_16.out.below hb)
    have EH_17 := hidH (EH_16.out.below hb)
    clear cW cG cH
    clear hb
    clear B_16 W_16 G_16 H_16 EW_16 EG_16 EH_16
    have cW := EW_17.out.cell
    have cG := EG_17.out.cell
    have cH := EH_17.out.cell
    go_wp2_with fail
    refine (heldEng_any _ 1 rs.length _ _ _ G_17.out.lies (by omega) (by omega) hrs).mono ?_; rintro e w15 ⟨rfl, hb⟩
    have S_18 := hidH hb.size
    have B_18 := hidH (bThen B_17.out hb)
    have W_18 := hidH (W_17.out.below hb)
    have G_18 := hidH (G_17.out.below hb)
    have H_18 := hidH (H_17.out.below hb)
    have EW_18 := hidH (EW_17.out.below hb)
    have EG_18 := hidH (EG_17.out.below hb)
    have EH_18 := hidH (EH_17.out.below hb)
    clear cW cG cH
    clear hb
    clear B_17 W_17 G_17 H_17 EW_17 EG_17 EH_17
    have cW := EW_18.out.cell
    have cG := EG_18.out.cell
    have cH := EH_18.out.cell
    go_wp2
    go_ret
    exact ⟨rfl, B_18.out⟩
end Go.Proofs.Ytliakbgigkajnaa
