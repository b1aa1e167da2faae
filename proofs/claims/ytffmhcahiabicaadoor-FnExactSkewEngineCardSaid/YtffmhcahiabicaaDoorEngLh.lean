/-
  The walk of the exact law of SkewEngine. Condition: texts that fit in memory.
-/
import Derived.Test.YtffmhcahiabicaaDoorEngS
import Derived.Test.YtffmhcahiabicaaDoorEngEx
namespace Go.Proofs.YtffmhcahiabicaaDoor
set_option maxRecDepth 4000
set_option linter.unusedVariables false
open Go.RowKit
set_option maxHeartbeats 4000000 in
theorem exSkewEngine (v0 : Value) (cs0 : List ByteArray) (w : World) (hv0 : LiesS w 0 w.heap.size v0 cs0) (hm0 : ∀ c ∈ cs0, c.size ≤ 9223372036854775807) : Calls Tryd.prog 3 #[.agg #[v0]] w (Gives (.bool true) w) := by
  have HV0 := hidH hv0
  have HM0 := hidH hm0
  obtain ⟨a0, cap0, rfl⟩ := hv0.some
  have B_0 := hidH (belowN w (.cells #[.slice a0 cs0.length cap0] 24))
  have S_0 : Hid (w.heap.size + 1 ≤ (w.alloc (.cells #[.slice a0 cs0.length cap0] 24)).heap.size) := hidH (by simp)
  have EA_0 := hidH (LEngAt.fresh w (.slice a0 cs0.length cap0))
  have cA := EA_0.out.cell
  clear hv0 hm0
  go_enter Tryd.func3, Tryd.ntmps3
  go_wp2_with fail
  refine (szEng_any _ cs0 1048576 _ _ _ (HV0.out.below B_0.out) HM0.out (by omega)).mono ?_; rintro e w1 ⟨r, rfl, hr, hb⟩
  have S_1 := hidH hb.size
  have B_1 := hidH (bThen B_0.out hb)
  have EA_1 := hidH (EA_0.out.below hb)
  clear cA
  clear hb
  clear B_0  EA_0
  have cA := EA_1.out.cell
  rcases hr with rfl | ⟨⟨m, rfl, _⟩, hn0, hz0⟩
  · go_wp2
    go_ret
    exact ⟨rfl, B_1.out⟩
  · have HT := hidH (fun W (hb : Below w.heap.size w W) => toEng_any (.slice a0 cs0.length cap0) cs0 W ((HV0.out.below hb).mono (Nat.le_refl _) hb.size) hn0)
    clear hz0
    have HSP := hidH (fun W t lo hi (h : LiesS W lo hi t cs0) => sSkewEngine_any t cs0 W lo hi h HM0.out)
    have HIM := hidH (fun W t lo hi (h : LiesS W lo hi t cs0) => skewE_any t cs0 W lo hi h HM0.out)
    have hrs := askA_len cs0
    generalize askA cs0 = rs at HSP HIM hrs
    generalize engOk cs0 = rb at HSP HIM
    go_wp2_with fail
    refine (HT.out _ B_1.out).mono ?_; rintro e w2 ⟨t, rfl, hr, hb⟩
    have S_2 := hidH hb.size
    have B_2 := hidH (bThen B_1.out hb)
    have EA_2 := hidH (EA_1.out.below hb)
    have T_2 := hidH hr
    clear cA
    clear hb hr
    clear B_1  EA_1
    have cA := EA_2.out.cell
    go_wp2_with fail
    refine (HSP.out _ _ _ _ T_2.out.lies).mono ?_; rintro e w3 ⟨u, rfl, hr, hb⟩
    have S_3 := hidH hb.size
    have B_3 := hidH (bThen B_2.out hb)
    have T_3 := hidH (T_2.out.below hb)
    have EA_3 := hidH (EA_2.out.below hb)
    have W_3 := hidH hr
    clear cA
    clear hb hr
    clear B_2 T_2 EA_2
    have cA := EA_3.out.cell
    obtain ⟨au, cu, rfl⟩ := W_3.out.some
    clear T_3
    have B_4 := hidH (bMore B_3.out (.cells #[.slice au rs.length cu] 26))
    have S_4 : Hid (w3.heap.size + 1 ≤ (w3.alloc (.cells #[.slice au rs.length cu] 26)).heap.size) := hidH (by simp)
    have W_4 := hidH (W_3.out.below (belowN w3 (.cells #[.slice au rs.length cu] 26)))
    have EA_4 := hidH (EA_3.out.below (belowN w3 (.cells #[.slice au rs.length cu] 26)))
    have EW_4 := hidH (EngAt.fresh w3 (.slice au rs.length cu))
    clear cA
    clear B_3 W_3 EA_3
    have cA := EA_4.out.cell
    have cW := EW_4.out.cell
    go_wp2_with fail
    refine (HT.out _ B_4.out).mono ?_; rintro e w4 ⟨x0, rfl, hr, hb⟩
    have S_5 := hidH hb.size
    have B_5 := hidH (bThen B_4.out hb)
    have W_5 := hidH (W_4.out.below hb)
    have EA_5 := hidH (EA_4.out.below hb)
    have EW_5 := hidH (EW_4.out.below hb)
    have X_5 := hidH hr
    clear cA cW
    clear hb hr
    clear B_4 W_4 EA_4 EW_4
    have cA := EA_5.out.cell
    have cW := EW_5.out.cell
    obtain ⟨ax, cx, rfl⟩ := X_5.out.some
    have B_6 := hidH (bMore B_5.out (.cells #[.slice ax cs0.length cx] 26))
    have S_6 : Hid (w4.heap.size + 1 ≤ (w4.alloc (.cells #[.slice ax cs0.length cx] 26)).heap.size) := hidH (by simp)
    have W_6 := hidH (W_5.out.below (belowN w4 (.cells #[.slice ax cs0.length cx] 26)))
    have X_6 := hidH (X_5.out.below (belowN w4 (.cells #[.slice ax cs0.length cx] 26)))
    have EA_6 := hidH (EA_5.out.below (belowN w4 (.cells #[.slice ax cs0.length cx] 26)))
    have EW_6 := hidH (EW_5.out.below (belowN w4 (.cells #[.slice ax cs0.length cx] 26)))
    have EX_6 := hidH (EngAt.fresh w4 (.slice ax cs0.length cx))
    clear cA cW
    clear B_5 W_5 X_5 EA_5 EW_5
    have cA := EA_6.out.cell
    have cW := EW_6.out.cell
    have cX := EX_6.out.cell
    go_wp2_with fail
    refine (HIM.out _ _ _ _ X_6.out.lies).mono ?_; rintro e w5 ⟨g, rfl, hr, hb⟩
    have S_7 := hidH hb.size
    have B_7 := hidH (bThen B_6.out hb)
    have W_7 := hidH (W_6.out.below hb)
    have X_7 := hidH (X_6.out.below hb)
    have EA_7 := hidH (EA_6.out.below hb)
    have EW_7 := hidH (EW_6.out.below hb)
    have EX_7 := hidH (EX_6.out.below hb)
    have G_7 := hidH hr
    clear cA cW cX
    clear hb hr
    clear B_6 W_6 X_6 EA_6 EW_6 EX_6
    have cA := EA_7.out.cell
    have cW := EW_7.out.cell
    have cX := EX_7.out.cell
    obtain ⟨ag, cg, rfl⟩ := G_7.out.some
    have B_8 := hidH (bMore B_7.out (.cells #[.slice ag rs.length cg] 26))
    have S_8 : Hid (w5.heap.size + 1 ≤ (w5.alloc (.cells #[.slice ag rs.length cg] 26)).heap.size) := hidH (by simp)
    have W_8 := hidH (W_7.out.below (belowN w5 (.cells #[.slice ag rs.length cg] 26)))
    have X_8 := hidH (X_7.out.below (belowN w5 (.cells #[.slice ag rs.length cg] 26)))
    have G_8 := hidH (G_7.out.below (belowN w5 (.cells #[.slice ag rs.length cg] 26)))
    have EA_8 := hidH (EA_7.out.below (belowN w5 (.cells #[.slice ag rs.length cg] 26)))
    have EW_8 := hidH (EW_7.out.below (belowN w5 (.cells #[.slice ag rs.length cg] 26)))
    have EX_8 := hidH (EX_7.out.below (belowN w5 (.cells #[.slice ag rs.length cg] 26)))
    have EG_8 := hidH (EngAt.fresh w5 (.slice ag rs.length cg))
    clear cA cW cX
    clear B_7 W_7 X_7 G_7 EA_7 EW_7 EX_7
    have cA := EA_8.out.cell
    have cW := EW_8.out.cell
    have cX := EX_8.out.cell
    have cG := EG_8.out.cell
    go_wp2_with fail
    refine (eqEng_yes _ _ rs _ _ _ _ _ G_8.out.lies W_8.out.lies).mono ?_; rintro e w6 ⟨rfl, hb⟩
    have S_9 := hidH hb.size
    have B_9 := hidH (bThen B_8.out hb)
    have W_9 := hidH (W_8.out.below hb)
    have X_9 := hidH (X_8.out.below hb)
    have G_9 := hidH (G_8.out.below hb)
    have EA_9 := hidH (EA_8.out.below hb)
    have EW_9 := hidH (EW_8.out.below hb)
    have EX_9 := hidH (EX_8.out.below hb)
    have EG_9 := hidH (EG_8.out.below hb)
    clear cA cW cX cG
    clear hb
    clear B_8 W_8 X_8 G_8 EA_8 EW_8 EX_8 EG_8
    have cA := EA_9.out.cell
    have cW := EW_9.out.cell
    have cX := EX_9.out.cell
    have cG := EG_9.out.cell
    go_wp2_with fail
    go_region_with (first
      | (go_at_call 12; (with_reducible refine (HT.out _ B_9.out.drew).mono ?_); rintro e w7 ⟨yy, rfl, hr, hb⟩; (have B_10 := hidH (bThen B_9.out.drew hb)); (have YY := hidH hr); (have W_10 := hidH (W_9.out.below (bDrew hb))); (have X_10 := hidH (X_9.out.below (bDrew hb))); (have G_10 := hidH (G_9.out.below (bDrew hb))); (have EA_10 := hidH (EA_9.out.below (bDrew hb))); (have dA := EA_10.out.cell); (have EW_10 := hidH (EW_9.out.below (bDrew hb))); (have dW := EW_10.out.cell); (have EX_10 := hidH (EX_9.out.below (bDrew hb))); (have dX := EX_10.out.cell); (have EG_10 := hidH (EG_9.out.below (bDrew hb))); (have dG := EG_10.out.cell); clear hb hr)
      | (go_at_call 14; (with_reducible refine (eqEng_yes _ _ cs0 _ _ _ _ _ X_10.out.lies YY.out.lies).mono ?_); rintro e w8 ⟨rfl, hb⟩; (have B_11 := hidH (bThen B_10.out hb)); (have W_11 := hidH (W_10.out.below hb)); (have X_11 := hidH (X_10.out.below hb)); (have G_11 := hidH (G_10.out.below hb)); (have EA_11 := hidH (EA_10.out.below hb)); (have EW_11 := hidH (EW_10.out.below hb)); (have EX_11 := hidH (EX_10.out.below hb)); (have EG_11 := hidH (EG_10.out.below hb)); clear hb))
    all_goals
      clear cA dA
      clear cW dW
      clear cX dX
      clear cG dG
      clear YY B_9 B_10 W_9 W_10 X_9 X_10 G_9 G_10 EA_9 EA_10 EW_9 EW_10 EX_9 EX_10 EG_9 EG_10
      have cA := EA_11.out.cell
      have cW := EW_11.out.cell
      have cX := EX_11.out.cell
      have cG := EG_11.out.cell
      go_wp2_with fail
      refine (markEng_any _ cs0 1 _ _ _ X_11.out (by omega) (by omega) hn0).mono ?_; rintro e w9 ⟨rfl, hr, ha⟩
      have S_12 := hidH ha.size
      have B_12 := hidH (B_11.out.trans (ha.below (by have z0 := S_0.out; have z1 := S_1.out; have z2 := S_2.out; have z3 := S_3.out; have z4 := S_4.out; have z5 := S_5.out; have z6 := S_6.out; have z7 := S_7.out; have z8 := S_8.out; have z9 := S_9.out; omega) B_11.out.size))
      have W_12 := hidH (W_11.out.apart ha (by have z0 := S_0.out; have z1 := S_1.out; have z2 := S_2.out; have z3 := S_3.out; have z4 := S_4.out; have z5 := S_5.out; have z6 := S_6.out; have z7 := S_7.out; have z8 := S_8.out; have z9 := S_9.out; omega))
      have G_12 := hidH (G_11.out.apart ha (by have z0 := S_0.out; have z1 := S_1.out; have z2 := S_2.out; have z3 := S_3.out; have z4 := S_4.out; have z5 := S_5.out; have z6 := S_6.out; have z7 := S_7.out; have z8 := S_8.out; have z9 := S_9.out; omega))
      have EA_12 := hidH (EA_11.out.apart ha (by have := EA_11.out.lt; have z0 := S_0.out; have z1 := S_1.out; have z2 := S_2.out; have z3 := S_3.out; have z4 := S_4.out; have z5 := S_5.out; have z6 := S_6.out; have z7 := S_7.out; have z8 := S_8.out; have z9 := S_9.out; omega))
      have EW_12 := hidH (EW_11.out.apart ha (by have := EW_11.out.lt; have z0 := S_0.out; have z1 := S_1.out; have z2 := S_2.out; have z3 := S_3.out; have z4 := S_4.out; have z5 := S_5.out; have z6 := S_6.out; have z7 := S_7.out; have z8 := S_8.out; have z9 := S_9.out; omega))
      have EX_12 := hidH (EX_11.out.apart ha (by have := EX_11.out.lt; have z0 := S_0.out; have z1 := S_1.out; have z2 := S_2.out; have z3 := S_3.out; have z4 := S_4.out; have z5 := S_5.out; have z6 := S_6.out; have z7 := S_7.out; have z8 := S_8.out; have z9 := S_9.out; omega))
      have EG_12 := hidH (EG_11.out.apart ha (by have := EG_11.out.lt; have z0 := S_0.out; have z1 := S_1.out; have z2 := S_2.out; have z3 := S_3.out; have z4 := S_4.out; have z5 := S_5.out; have z6 := S_6.out; have z7 := S_7.out; have z8 := S_8.out; have z9 := S_9.out; omega))
      have X_12 := hidH hr
      clear cA cW cX cG
      clear ha hr
      clear B_11 W_11 X_11 G_11 EA_11 EW_11 EX_11 EG_11
      have cA := EA_12.out.cell
      have cW := EW_12.out.cell
      have cX := EX_12.out.cell
      have cG := EG_12.out.cell
      clear X_12
      clear cX EX_12
      go_wp2_with fail
      refine (eqEng_yes _ _ rs _ _ _ _ _ G_12.out.lies W_12.out.lies).mono ?_; rintro e w10 ⟨rfl, hb⟩
      have S_13 := hidH hb.size
      have B_13 := hidH (bThen B_12.out hb)
      have W_13 := hidH (W_12.out.below hb)
      have G_13 := hidH (G_12.out.below hb)
      have EA_13 := hidH (EA_12.out.below hb)
      have EW_13 := hidH (EW_12.out.below hb)
      have EG_13 := hidH (EG_12.out.below hb)
      clear cA cW cG
      clear hb
      clear B_12 W_12 G_12 EA_12 EW_12 EG_12
      have cA := EA_13.out.cell
      have cW := EW_13.out.cell
      have cG := EG_13.out.cell
      go_wp2_with fail
      refine (markEng_any _ rs 1 _ _ _ G_13.out (by omega) (by omega) hrs).mono ?_; rintro e w11 ⟨rfl, hr, ha⟩
      have S_14 := hidH ha.size
      have B_14 := hidH (B_13.out.trans (ha.below (by have z0 := S_0.out; have z1 := S_1.out; have z2 := S_2.out; have z3 := S_3.out; have z4 := S_4.out; have z5 := S_5.out; have z6 := S_6.out; have z7 := S_7.out; have z8 := S_8.out; have z9 := S_9.out; have z12 := S_12.out; have z13 := S_13.out; omega) B_13.out.size))
      have W_14 := hidH (W_13.out.apart ha (by have z0 := S_0.out; have z1 := S_1.out; have z2 := S_2.out; have z3 := S_3.out; have z4 := S_4.out; have z5 := S_5.out; have z6 := S_6.out; have z7 := S_7.out; have z8 := S_8.out; have z9 := S_9.out; have z12 := S_12.out; have z13 := S_13.out; omega))
      have EA_14 := hidH (EA_13.out.apart ha (by have := EA_13.out.lt; have z0 := S_0.out; have z1 := S_1.out; have z2 := S_2.out; have z3 := S_3.out; have z4 := S_4.out; have z5 := S_5.out; have z6 := S_6.out; have z7 := S_7.out; have z8 := S_8.out; have z9 := S_9.out; have z12 := S_12.out; have z13 := S_13.out; omega))
      have EW_14 := hidH (EW_13.out.apart ha (by have := EW_13.out.lt; have z0 := S_0.out; have z1 := S_1.out; have z2 := S_2.out; have z3 := S_3.out; have z4 := S_4.out; have z5 := S_5.out; have z6 := S_6.out; have z7 := S_7.out; have z8 := S_8.out; have z9 := S_9.out; have z12 := S_12.out; have z13 := S_13.out; omega))
      have EG_14 := hidH (EG_13.out.apart ha (by have := EG_13.out.lt; have z0 := S_0.out; have z1 := S_1.out; have z2 := S_2.out; have z3 := S_3.out; have z4 := S_4.out; have z5 := S_5.out; have z6 := S_6.out; have z7 := S_7.out; have z8 := S_8.out; have z9 := S_9.out; have z12 := S_12.out; have z13 := S_13.out; omega))
      have G_14 := hidH hr
      clear cA cW cG
      clear ha hr
      clear B_13 W_13 G_13 EA_13 EW_13 EG_13
      have cA := EA_14.out.cell
      have cW := EW_14.out.cell
      have cG := EG_14.out.cell
      go_wp2_with fail
      refine (heldEng_any _ 1 rs.length _ _ _ G_14.out.lies (by omega) (by omega) hrs).mono ?_; rintro e w12 ⟨rfl, hb⟩
      have S_15 := hidH hb.size
      have B_15 := hidH (bThen B_14.out hb)
      have W_15 := hidH (W_14.out.below hb)
      have G_15 := hidH (G_14.out.below hb)
      have EA_15 := hidH (EA_14.out.below hb)
      have EW_15 := hidH (EW_14.out.below hb)
      have EG_15 := hidH (EG_14.out.below hb)
      clear cA cW cG
      clear hb
      clear B_14 W_14 G_14 EA_14 EW_14 EG_14
      have cA := EA_15.out.cell
      have cW := EW_15.out.cell
      have cG := EG_15.out.cell
      go_wp2_with fail
      refine (HT.out _ B_15.out).mono ?_; rintro e w13 ⟨t1, rfl, hr, hb⟩
      have S_16 := hidH hb.size
      have B_16 := hidH (bThen B_15.out hb)
      have W_16 := hidH (W_15.out.below hb)
      have G_16 := hidH (G_15.out.below hb)
      have EA_16 := hidH (EA_15.out.below hb)
      have EW_16 := hidH (EW_15.out.below hb)
      have EG_16 := hidH (EG_15.out.below hb)
      have T_16 := hidH hr
      clear cA cW cG
      clear hb hr
      clear B_15 W_15 G_15 EA_15 EW_15 EG_15
      have cA := EA_16.out.cell
      have cW := EW_16.out.cell
      have cG := EG_16.out.cell
      go_wp2_with fail
      refine (HIM.out _ _ _ _ T_16.out.lies).mono ?_; rintro e w14 ⟨h, rfl, hr, hb⟩
      have S_17 := hidH hb.size
      have B_17 := hidH (bThen B_16.out hb)
      have W_17 := hidH (W_16.out.below hb)
      have G_17 := hidH (G_16.out.below hb)
      have T_17 := hidH (T_16.out.below hb)
      have EA_17 := hidH (EA_16.out.below hb)
      have EW_17 := hidH (EW_16.out.below hb)
      have EG_17 := hidH (EG_16.out.below hb)
      have H_17 := hidH hr
      clear cA cW cG
      clear hb hr
      clear B_16 W_16 G_16 T_16 EA_16 EW_16 EG_16
      have cA := EA_17.out.cell
      have cW := EW_17.out.cell
      have cG := EG_17.out.cell
      obtain ⟨ah, ch, rfl⟩ := H_17.out.some
      clear T_17
      have B_18 := hidH (bMore B_17.out (.cells #[.slice ah rs.length ch] 26))
      have S_18 : Hid (w14.heap.size + 1 ≤ (w14.alloc (.cells #[.slice ah rs.length ch] 26)).heap.size) := hidH (by simp)
      have W_18 := hidH (W_17.out.below (belowN w14 (.cells #[.slice ah rs.length ch] 26)))
      have G_18 := hidH (G_17.out.below (belowN w14 (.cells #[.slice ah rs.length ch] 26)))
      have H_18 := hidH (H_17.out.below (belowN w14 (.cells #[.slice ah rs.length ch] 26)))
      have EA_18 := hidH (EA_17.out.below (belowN w14 (.cells #[.slice ah rs.length ch] 26)))
      have EW_18 := hidH (EW_17.out.below (belowN w14 (.cells #[.slice ah rs.length ch] 26)))
      have EG_18 := hidH (EG_17.out.below (belowN w14 (.cells #[.slice ah rs.length ch] 26)))
      have EH_18 := hidH (EngAt.fresh w14 (.slice ah rs.length ch))
      clear cA cW cG
      clear B_17 W_17 G_17 H_17 EA_17 EW_17 EG_17
      have cA := EA_18.out.cell
      have cW := EW_18.out.cell
      have cG := EG_18.out.cell
      have cH := EH_18.out.cell
      go_wp2_with fail
      refine (eqEng_yes _ _ rs _ _ _ _ _ H_18.out.lies W_18.out.lies).mono ?_; rintro e w15 ⟨rfl, hb⟩
      have S_19 := hidH hb.size
      have B_19 := hidH (bThen B_18.out hb)
      have W_19 := hidH (W_18.out.below hb)
      have G_19 := hidH (G_18.out.below hb)
      have H_19 := hidH (H_18.out.below hb)
      have EA_19 := hidH (EA_18.out.below hb)
      have EW_19 := hidH (EW_18.out.below hb)
      have EG_19 := hidH (EG_18.out.below hb)
      have EH_19 := hidH (EH_18.out.below hb)
      clear cA cW cG cH
      clear hb
      clear B_18 W_18 G_18 H_18 EA_18 EW_18 EG_18 EH_18
      have cA := EA_19.out.cell
      have cW := EW_19.out.cell
      have cG := EG_19.out.cell
      have cH := EH_19.out.cell
      go_wp2_with fail
      refine (heldEng_any _ 1 rs.length _ _ _ G_19.out.lies (by omega) (by omega) hrs).mono ?_; rintro e w16 ⟨rfl, hb⟩
      have S_20 := hidH hb.size
      have B_20 := hidH (bThen B_19.out hb)
      have W_20 := hidH (W_19.out.below hb)
      have G_20 := hidH (G_19.out.below hb)
      have H_20 := hidH (H_19.out.below hb)
      have EA_20 := hidH (EA_19.out.below hb)
      have EW_20 := hidH (EW_19.out.below hb)
      have EG_20 := hidH (EG_19.out.below hb)
      have EH_20 := hidH (EH_19.out.below hb)
      clear cA cW cG cH
      clear hb
      clear B_19 W_19 G_19 H_19 EA_19 EW_19 EG_19 EH_19
      have cA := EA_20.out.cell
      have cW := EW_20.out.cell
      have cG := EG_20.out.cell
      have cH := EH_20.out.cell
      go_wp2
      go_ret
      exact ⟨rfl, B_20.out⟩
end Go.Proofs.YtffmhcahiabicaaDoor
