/-
  The walk of the exact law of ReadEngine. Condition: texts that fit in memory.
-/
import Derived.Test.YtliakbgigkajnaaDoorEngB
import Derived.Test.YtliakbgigkajnaaDoorEngEx
namespace Go.Proofs.YtliakbgigkajnaaDoor
set_option maxRecDepth 4000
set_option linter.unusedVariables false
open Go.RowKit
set_option maxHeartbeats 4000000 in
theorem exReadEngine (v0 : Value) (cs0 : List ByteArray) (w : World) (hv0 : LiesS w 0 w.heap.size v0 cs0) (hm0 : ∀ c ∈ cs0, c.size ≤ 9223372036854775807) : Calls Tryd.prog 5 #[.agg #[v0]] w (Gives (.bool true) w) := by
  have HV0 := hidH hv0
  have HM0 := hidH hm0
  obtain ⟨a0, cap0, rfl⟩ := hv0.some
  have B_0 := hidH (belowN w (.cells #[.slice a0 cs0.length cap0] 24))
  have S_0 : Hid (w.heap.size + 1 ≤ (w.alloc (.cells #[.slice a0 cs0.length cap0] 24)).heap.size) := hidH (by simp)
  have EA_0 := hidH (LEngAt.fresh w (.slice a0 cs0.length cap0))
  have cA := EA_0.out.cell
  clear hv0 hm0
  go_enter Tryd.func5, Tryd.ntmps5
  go_wp2_with fail
  refine (szEng_any _ cs0 1048576 _ _ _ (HV0.out.below B_0.out) HM0.out (by omega)).mono ?_; rintro e w1 ⟨r, rfl, hr, hb⟩
  have S_1 := hidH hb.size
  have B_1 := hidH (bThen B_0.out hb)
  have EA_1 := hidH (EA_0.out.below hb)
  clear cA
  clear hb
  clear B_0  EA_0
  have cA := EA_1.out.cell
  rcases hr with rfl | ⟨⟨m, rfl, _⟩, hn0, hz0⟩
  · go_wp2
    go_ret
    exact ⟨rfl, B_1.out⟩
  · have HT := hidH (fun W (hb : Below w.heap.size w W) => toEng_any (.slice a0 cs0.length cap0) cs0 W ((HV0.out.below hb).mono (Nat.le_refl _) hb.size) hn0)
    clear hz0
    have HSP := hidH (fun W t lo hi (h : LiesS W lo hi t cs0) => sReadEngine_any t cs0 W lo hi h HM0.out)
    have HIM := hidH (fun W t lo hi (h : LiesS W lo hi t cs0) => readEngine_any t cs0 W lo hi h HM0.out)
    have hrs := readL_len cs0
    generalize readL cs0 = rs at HSP HIM hrs
    generalize readB cs0 = rb at HSP HIM
    go_wp2_with fail
    refine (HT.out _ B_1.out).mono ?_; rintro e w2 ⟨t, rfl, hr, hb⟩
    have S_2 := hidH hb.size
    have B_2 := hidH (bThen B_1.out hb)
    have EA_2 := hidH (EA_1.out.below hb)
    have T_2 := hidH hr
    clear cA
    clear hb hr
    clear B_1  EA_1
    have cA := EA_2.out.cell
    go_wp2_with fail
    refine (HSP.out _ _ _ _ T_2.out.lies).mono ?_; rintro e w3 ⟨u, rfl, hr, hb⟩
    have S_3 := hidH hb.size
    have B_3 := hidH (bThen B_2.out hb)
    have T_3 := hidH (T_2.out.below hb)
    have EA_3 := hidH (EA_2.out.below hb)
    have W_3 := hidH hr
    clear cA
    clear hb hr
    clear B_2 T_2 EA_2
    have cA := EA_3.out.cell
    clear T_3
    go_wp2_with fail
    refine (HT.out _ B_3.out).mono ?_; rintro e w4 ⟨x0, rfl, hr, hb⟩
    have S_4 := hidH hb.size
    have B_4 := hidH (bThen B_3.out hb)
    have W_4 := hidH (W_3.out.below hb)
    have EA_4 := hidH (EA_3.out.below hb)
    have X_4 := hidH hr
    clear cA
    clear hb hr
    clear B_3 W_3 EA_3
    have cA := EA_4.out.cell
    obtain ⟨ax, cx, rfl⟩ := X_4.out.some
    have B_5 := hidH (bMore B_4.out (.cells #[.slice ax cs0.length cx] 27))
    have S_5 : Hid (w4.heap.size + 1 ≤ (w4.alloc (.cells #[.slice ax cs0.length cx] 27)).heap.size) := hidH (by simp)
    have W_5 := hidH (W_4.out.below (belowN w4 (.cells #[.slice ax cs0.length cx] 27)))
    have X_5 := hidH (X_4.out.below (belowN w4 (.cells #[.slice ax cs0.length cx] 27)))
    have EA_5 := hidH (EA_4.out.below (belowN w4 (.cells #[.slice ax cs0.length cx] 27)))
    have EX_5 := hidH (EngAt.fresh w4 (.slice ax cs0.length cx))
    clear cA
    clear B_4 W_4 X_4 EA_4
    have cA := EA_5.out.cell
    have cX := EX_5.out.cell
    go_wp2_with fail
    refine (HIM.out _ _ _ _ X_5.out.lies).mono ?_; rintro e w5 ⟨g, rfl, hr, hb⟩
    have S_6 := hidH hb.size
    have B_6 := hidH (bThen B_5.out hb)
    have W_6 := hidH (W_5.out.below hb)
    have X_6 := hidH (X_5.out.below hb)
    have EA_6 := hidH (EA_5.out.below hb)
    have EX_6 := hidH (EX_5.out.below hb)
    have G_6 := hidH hr
    clear cA cX
    clear hb hr
    clear B_5 W_5 X_5 EA_5 EX_5
    have cA := EA_6.out.cell
    have cX := EX_6.out.cell
    go_wp2_with fail
    refine (eqInts_yes g u rs _ _ _ _ _ G_6.out.lies W_6.out.lies).mono ?_; rintro e w6 ⟨rfl, hb⟩
    have S_7 := hidH hb.size
    have B_7 := hidH (bThen B_6.out hb)
    have W_7 := hidH (W_6.out.below hb)
    have X_7 := hidH (X_6.out.below hb)
    have G_7 := hidH (G_6.out.below hb)
    have EA_7 := hidH (EA_6.out.below hb)
    have EX_7 := hidH (EX_6.out.below hb)
    clear cA cX
    clear hb
    clear B_6 W_6 X_6 G_6 EA_6 EX_6
    have cA := EA_7.out.cell
    have cX := EX_7.out.cell
    go_wp2_with fail
    go_region_with (first
      | (go_at_call 11; (with_reducible refine (HT.out _ B_7.out.drew).mono ?_); rintro e w7 ⟨yy, rfl, hr, hb⟩; (have B_8 := hidH (bThen B_7.out.drew hb)); (have YY := hidH hr); (have W_8 := hidH (W_7.out.below (bDrew hb))); (have X_8 := hidH (X_7.out.below (bDrew hb))); (have G_8 := hidH (G_7.out.below (bDrew hb))); (have EA_8 := hidH (EA_7.out.below (bDrew hb))); (have dA := EA_8.out.cell); (have EX_8 := hidH (EX_7.out.below (bDrew hb))); (have dX := EX_8.out.cell); clear hb hr)
      | (go_at_call 13; (with_reducible refine (eqEng_yes _ _ cs0 _ _ _ _ _ X_8.out.lies YY.out.lies).mono ?_); rintro e w8 ⟨rfl, hb⟩; (have B_9 := hidH (bThen B_8.out hb)); (have W_9 := hidH (W_8.out.below hb)); (have X_9 := hidH (X_8.out.below hb)); (have G_9 := hidH (G_8.out.below hb)); (have EA_9 := hidH (EA_8.out.below hb)); (have EX_9 := hidH (EX_8.out.below hb)); clear hb))
    all_goals
      clear cA dA
      clear cX dX
      clear YY B_7 B_8 W_7 W_8 X_7 X_8 G_7 G_8 EA_7 EA_8 EX_7 EX_8
      have cA := EA_9.out.cell
      have cX := EX_9.out.cell
      go_wp2_with fail
      refine (markEng_any _ cs0 1 _ _ _ X_9.out (by omega) (by omega) hn0).mono ?_; rintro e w9 ⟨rfl, hr, ha⟩
      have S_10 := hidH ha.size
      have B_10 := hidH (B_9.out.trans (ha.below (by have z0 := S_0.out; have z1 := S_1.out; have z2 := S_2.out; have z3 := S_3.out; have z4 := S_4.out; have z5 := S_5.out; have z6 := S_6.out; have z7 := S_7.out; omega) B_9.out.size))
      have W_10 := hidH (W_9.out.apart ha (by have z0 := S_0.out; have z1 := S_1.out; have z2 := S_2.out; have z3 := S_3.out; have z4 := S_4.out; have z5 := S_5.out; have z6 := S_6.out; have z7 := S_7.out; omega))
      have G_10 := hidH (G_9.out.apart ha (by have z0 := S_0.out; have z1 := S_1.out; have z2 := S_2.out; have z3 := S_3.out; have z4 := S_4.out; have z5 := S_5.out; have z6 := S_6.out; have z7 := S_7.out; omega))
      have EA_10 := hidH (EA_9.out.apart ha (by have := EA_9.out.lt; have z0 := S_0.out; have z1 := S_1.out; have z2 := S_2.out; have z3 := S_3.out; have z4 := S_4.out; have z5 := S_5.out; have z6 := S_6.out; have z7 := S_7.out; omega))
      have EX_10 := hidH (EX_9.out.apart ha (by have := EX_9.out.lt; have z0 := S_0.out; have z1 := S_1.out; have z2 := S_2.out; have z3 := S_3.out; have z4 := S_4.out; have z5 := S_5.out; have z6 := S_6.out; have z7 := S_7.out; omega))
      have X_10 := hidH hr
      clear cA cX
      clear ha hr
      clear B_9 W_9 X_9 G_9 EA_9 EX_9
      have cA := EA_10.out.cell
      have cX := EX_10.out.cell
      clear X_10
      clear cX EX_10
      go_wp2_with fail
      refine (eqInts_yes g u rs _ _ _ _ _ G_10.out.lies W_10.out.lies).mono ?_; rintro e w10 ⟨rfl, hb⟩
      have S_11 := hidH hb.size
      have B_11 := hidH (bThen B_10.out hb)
      have W_11 := hidH (W_10.out.below hb)
      have G_11 := hidH (G_10.out.below hb)
      have EA_11 := hidH (EA_10.out.below hb)
      clear cA
      clear hb
      clear B_10 W_10 G_10 EA_10
      have cA := EA_11.out.cell
      go_wp2_with fail
      refine (mark_any g rs 1 _ _ _ G_11.out (by omega) (by omega) hrs).mono ?_; rintro e w11 ⟨rfl, hr, ha⟩
      have S_12 := hidH ha.size
      have B_12 := hidH (B_11.out.trans (ha.below (by have z0 := S_0.out; have z1 := S_1.out; have z2 := S_2.out; have z3 := S_3.out; have z4 := S_4.out; have z5 := S_5.out; have z6 := S_6.out; have z7 := S_7.out; have z10 := S_10.out; have z11 := S_11.out; omega) B_11.out.size))
      have W_12 := hidH (W_11.out.apart ha (by have z0 := S_0.out; have z1 := S_1.out; have z2 := S_2.out; have z3 := S_3.out; have z4 := S_4.out; have z5 := S_5.out; have z6 := S_6.out; have z7 := S_7.out; have z10 := S_10.out; have z11 := S_11.out; omega))
      have EA_12 := hidH (EA_11.out.apart ha (by have := EA_11.out.lt; have z0 := S_0.out; have z1 := S_1.out; have z2 := S_2.out; have z3 := S_3.out; have z4 := S_4.out; have z5 := S_5.out; have z6 := S_6.out; have z7 := S_7.out; have z10 := S_10.out; have z11 := S_11.out; omega))
      have G_12 := hidH hr
      clear cA
      clear ha hr
      clear B_11 W_11 G_11 EA_11
      have cA := EA_12.out.cell
      go_wp2_with fail
      refine (held_any g 1 rs.length _ _ _ G_12.out.lies (by omega) (by omega) hrs).mono ?_; rintro e w12 ⟨rfl, hb⟩
      have S_13 := hidH hb.size
      have B_13 := hidH (bThen B_12.out hb)
      have W_13 := hidH (W_12.out.below hb)
      have G_13 := hidH (G_12.out.below hb)
      have EA_13 := hidH (EA_12.out.below hb)
      clear cA
      clear hb
      clear B_12 W_12 G_12 EA_12
      have cA := EA_13.out.cell
      go_wp2_with fail
      refine (HT.out _ B_13.out).mono ?_; rintro e w13 ⟨t1, rfl, hr, hb⟩
      have S_14 := hidH hb.size
      have B_14 := hidH (bThen B_13.out hb)
      have W_14 := hidH (W_13.out.below hb)
      have G_14 := hidH (G_13.out.below hb)
      have EA_14 := hidH (EA_13.out.below hb)
      have T_14 := hidH hr
      clear cA
      clear hb hr
      clear B_13 W_13 G_13 EA_13
      have cA := EA_14.out.cell
      go_wp2_with fail
      refine (HIM.out _ _ _ _ T_14.out.lies).mono ?_; rintro e w14 ⟨h, rfl, hr, hb⟩
      have S_15 := hidH hb.size
      have B_15 := hidH (bThen B_14.out hb)
      have W_15 := hidH (W_14.out.below hb)
      have G_15 := hidH (G_14.out.below hb)
      have T_15 := hidH (T_14.out.below hb)
      have EA_15 := hidH (EA_14.out.below hb)
      have H_15 := hidH hr
      clear cA
      clear hb hr
      clear B_14 W_14 G_14 T_14 EA_14
      have cA := EA_15.out.cell
      clear T_15
      go_wp2_with fail
      refine (eqInts_yes h u rs _ _ _ _ _ H_15.out.lies W_15.out.lies).mono ?_; rintro e w15 ⟨rfl, hb⟩
      have S_16 := hidH hb.size
      have B_16 := hidH (bThen B_15.out hb)
      have W_16 := hidH (W_15.out.below hb)
      have G_16 := hidH (G_15.out.below hb)
      have H_16 := hidH (H_15.out.below hb)
      have EA_16 := hidH (EA_15.out.below hb)
      clear cA
      clear hb
      clear B_15 W_15 G_15 H_15 EA_15
      have cA := EA_16.out.cell
      go_wp2_with fail
      refine (held_any g 1 rs.length _ _ _ G_16.out.lies (by omega) (by omega) hrs).mono ?_; rintro e w16 ⟨rfl, hb⟩
      have S_17 := hidH hb.size
      have B_17 := hidH (bThen B_16.out hb)
      have W_17 := hidH (W_16.out.below hb)
      have G_17 := hidH (G_16.out.below hb)
      have H_17 := hidH (H_16.out.below hb)
      have EA_17 := hidH (EA_16.out.below hb)
      clear cA
      clear hb
      clear B_16 W_16 G_16 H_16 EA_16
      have cA := EA_17.out.cell
      go_wp2
      go_ret
      exact ⟨rfl, B_17.out⟩
end Go.Proofs.YtliakbgigkajnaaDoor
