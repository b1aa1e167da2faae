/-
  The walks of the exact laws of FormatEngine and ParseEngine. Conditions: texts that fit in memory; the library's own variable MaxLen holds some number.
-/
import Derived.Test.YtffmhcahiabicaaDoorEngTb
import Derived.Test.YtffmhcahiabicaaDoorEngEx
namespace Go.Proofs.YtffmhcahiabicaaDoor
set_option maxRecDepth 4000
set_option linter.unusedVariables false
open Go.RowKit
set_option maxHeartbeats 4000000 in
theorem exFormatEngine (v0 : Value) (cs0 : List ByteArray) (w : World) (hv0 : LiesS w 0 w.heap.size v0 cs0) (hm0 : ∀ c ∈ cs0, c.size ≤ 9223372036854775807) : Calls Tryd.prog 4 #[.agg #[v0]] w (Gives (.bool true) w) := by
  have HV0 := hidH hv0
  have HM0 := hidH hm0
  obtain ⟨a0, cap0, rfl⟩ := hv0.some
  have B_0 := hidH (belowN w (.cells #[.slice a0 cs0.length cap0] 24))
  have S_0 : Hid (w.heap.size + 1 ≤ (w.alloc (.cells #[.slice a0 cs0.length cap0] 24)).heap.size) := hidH (by simp)
  have EA_0 := hidH (LEngAt.fresh w (.slice a0 cs0.length cap0))
  have cA := EA_0.out.cell
  clear hv0 hm0
  go_enter Tryd.func4, Tryd.ntmps4
  go_wp2_with fail
  refine (szEng_any _ cs0 1048576 _ _ _ (HV0.out.below B_0.out) HM0.out (by omega)).mono ?_; rintro e w1 ⟨r, rfl, hr, hb⟩
  have S_1 := hidH hb.size
  have B_1 := hidH (bThen B_0.out hb)
  have EA_1 := hidH (EA_0.out.below hb)
  clear cA
  clear hb
  clear B_0  EA_0
  have cA := EA_1.out.cell
  rcases hr with rfl | ⟨⟨m, rfl, _⟩, hn0, hz0⟩
  · go_wp2
    go_ret
    exact ⟨rfl, B_1.out⟩
  · have HT := hidH (fun W (hb : Below w.heap.size w W) => toEng_any (.slice a0 cs0.length cap0) cs0 W ((HV0.out.below hb).mono (Nat.le_refl _) hb.size) hn0)
    clear hz0
    have HSP := hidH (fun W t lo hi (h : LiesS W lo hi t cs0) => sFormatEngine_any t cs0 W lo hi h HM0.out)
    have HIM := hidH (fun W t lo hi (h : LiesS W lo hi t cs0) => formatEngine_any t cs0 W lo hi h HM0.out)
    generalize feB cs0 = ra at HSP HIM
    go_wp2_with fail
    refine (HT.out _ B_1.out).mono ?_; rintro e w2 ⟨t, rfl, hr, hb⟩
    have S_2 := hidH hb.size
    have B_2 := hidH (bThen B_1.out hb)
    have EA_2 := hidH (EA_1.out.below hb)
    have T_2 := hidH hr
    clear cA
    clear hb hr
    clear B_1  EA_1
    have cA := EA_2.out.cell
    go_wp2_with fail
    refine (HSP.out _ _ _ _ T_2.out.lies).mono ?_; rintro e w3 ⟨rfl, hb⟩
    have S_3 := hidH hb.size
    have B_3 := hidH (bThen B_2.out hb)
    have T_3 := hidH (T_2.out.below hb)
    have EA_3 := hidH (EA_2.out.below hb)
    clear cA
    clear hb
    clear B_2 T_2 EA_2
    have cA := EA_3.out.cell
    clear T_3
    go_wp2_with fail
    refine (HT.out _ B_3.out).mono ?_; rintro e w4 ⟨x0, rfl, hr, hb⟩
    have S_4 := hidH hb.size
    have B_4 := hidH (bThen B_3.out hb)
    have EA_4 := hidH (EA_3.out.below hb)
    have X_4 := hidH hr
    clear cA
    clear hb hr
    clear B_3  EA_3
    have cA := EA_4.out.cell
    obtain ⟨ax, cx, rfl⟩ := X_4.out.some
    have B_5 := hidH (bMore B_4.out (.cells #[.slice ax cs0.length cx] 26))
    have S_5 : Hid (w4.heap.size + 1 ≤ (w4.alloc (.cells #[.slice ax cs0.length cx] 26)).heap.size) := hidH (by simp)
    have X_5 := hidH (X_4.out.below (belowN w4 (.cells #[.slice ax cs0.length cx] 26)))
    have EA_5 := hidH (EA_4.out.below (belowN w4 (.cells #[.slice ax cs0.length cx] 26)))
    have EX_5 := hidH (EngAt.fresh w4 (.slice ax cs0.length cx))
    clear cA
    clear B_4 X_4 EA_4
    have cA := EA_5.out.cell
    have cX := EX_5.out.cell
    go_wp2_with fail
    refine (HIM.out _ _ _ _ X_5.out.lies).mono ?_; rintro e w5 ⟨rfl, hb⟩
    have S_6 := hidH hb.size
    have B_6 := hidH (bThen B_5.out hb)
    have X_6 := hidH (X_5.out.below hb)
    have EA_6 := hidH (EA_5.out.below hb)
    have EX_6 := hidH (EX_5.out.below hb)
    clear cA cX
    clear hb
    clear B_5 X_5 EA_5 EX_5
    have cA := EA_6.out.cell
    have cX := EX_6.out.cell
    go_wp2_with fail
    go_region_with (first
      | (go_at_call 12; (with_reducible refine (HT.out _ B_6.out.drew).mono ?_); rintro e w6 ⟨yy, rfl, hr, hb⟩; (have B_7 := hidH (bThen B_6.out.drew hb)); (have YY := hidH hr); (have X_7 := hidH (X_6.out.below (bDrew hb))); (have EA_7 := hidH (EA_6.out.below (bDrew hb))); (have dA := EA_7.out.cell); (have EX_7 := hidH (EX_6.out.below (bDrew hb))); (have dX := EX_7.out.cell); clear hb hr)
      | (go_at_call 14; (with_reducible refine (eqEng_yes _ _ cs0 _ _ _ _ _ X_7.out.lies YY.out.lies).mono ?_); rintro e w7 ⟨rfl, hb⟩; (have B_8 := hidH (bThen B_7.out hb)); (have X_8 := hidH (X_7.out.below hb)); (have EA_8 := hidH (EA_7.out.below hb)); (have EX_8 := hidH (EX_7.out.below hb)); clear hb))
    all_goals
      clear cA dA
      clear cX dX
      clear YY B_6 B_7 X_6 X_7 EA_6 EA_7 EX_6 EX_7
      have cA := EA_8.out.cell
      have cX := EX_8.out.cell
      go_wp2
      go_ret
      exact ⟨rfl, B_8.out⟩

set_option maxHeartbeats 4000000 in
theorem exParseEngine (s : ByteArray) (w : World) (hs : s.size ≤ maxLen) (hM : MaxE w) : Calls Tryd.prog 5 #[.string s] w (Gives (.bool true) w) := by
  unfold maxLen at hs
  by_cases hbig : 1048576 < s.size
  · go_enter Tryd.func5, Tryd.ntmps5
    go_wp2
    go_ret
    exact ⟨rfl, Below.refl _ _⟩
  · have hsm : s.size ≤ 1048576 := by omega
    have HSP := hidH (fun W => sParseEngine_any s W hsm)
    have HIM := hidH (fun W (h : Below w.heap.size w W) => parseEngine_any s W hsm (hM.below h))
    have hrs := peL_len s
    clear hM hbig
    generalize peL s = rs at HSP HIM hrs
    generalize peB s = rb at HSP HIM
    have B_0 := hidH (Below.refl w.heap.size w)
    have S_0 := hidH (Nat.le_refl w.heap.size)
    go_enter Tryd.func5, Tryd.ntmps5
    go_wp2_with fail
    refine (HSP.out _).mono ?_; rintro e w1 ⟨u, rfl, hr, hb⟩
    have S_1 := hidH hb.size
    have B_1 := hidH (bThen B_0.out hb)
    have W_1 := hidH hr
    clear hb hr
    clear B_0  
    obtain ⟨au, cu, rfl⟩ := W_1.out.some
    have B_2 := hidH (bMore B_1.out (.cells #[.slice au rs.length cu] 26))
    have S_2 : Hid (w1.heap.size + 1 ≤ (w1.alloc (.cells #[.slice au rs.length cu] 26)).heap.size) := hidH (by simp)
    have W_2 := hidH (W_1.out.below (belowN w1 (.cells #[.slice au rs.length cu] 26)))
    have EW_2 := hidH (EngAt.fresh w1 (.slice au rs.length cu))
    clear B_1 W_1 
    have cW := EW_2.out.cell
    go_wp2_with fail
    refine (HIM.out _ B_2.out).mono ?_; rintro e w2 ⟨g, rfl, hr, hb⟩
    have S_3 := hidH hb.size
    have B_3 := hidH (bThen B_2.out hb)
    have W_3 := hidH (W_2.out.below hb)
    have EW_3 := hidH (EW_2.out.below hb)
    have G_3 := hidH hr
    clear cW
    clear hb hr
    clear B_2 W_2 EW_2
    have cW := EW_3.out.cell
    obtain ⟨ag, cg, rfl⟩ := G_3.out.some
    have B_4 := hidH (bMore B_3.out (.cells #[.slice ag rs.length cg] 26))
    have S_4 : Hid (w2.heap.size + 1 ≤ (w2.alloc (.cells #[.slice ag rs.length cg] 26)).heap.size) := hidH (by simp)
    have W_4 := hidH (W_3.out.below (belowN w2 (.cells #[.slice ag rs.length cg] 26)))
    have G_4 := hidH (G_3.out.below (belowN w2 (.cells #[.slice ag rs.length cg] 26)))
    have EW_4 := hidH (EW_3.out.below (belowN w2 (.cells #[.slice ag rs.length cg] 26)))
    have EG_4 := hidH (EngAt.fresh w2 (.slice ag rs.length cg))
    clear cW
    clear B_3 W_3 G_3 EW_3
    have cW := EW_4.out.cell
    have cG := EG_4.out.cell
    go_wp2_with fail
    refine (eqEng_yes _ _ rs _ _ _ _ _ G_4.out.lies W_4.out.lies).mono ?_; rintro e w3 ⟨rfl, hb⟩
    have S_5 := hidH hb.size
    have B_5 := hidH (bThen B_4.out hb)
    have W_5 := hidH (W_4.out.below hb)
    have G_5 := hidH (G_4.out.below hb)
    have EW_5 := hidH (EW_4.out.below hb)
    have EG_5 := hidH (EG_4.out.below hb)
    clear cW cG
    clear hb
    clear B_4 W_4 G_4 EW_4 EG_4
    have cW := EW_5.out.cell
    have cG := EG_5.out.cell
    go_wp2_with fail
    refine (markEng_any _ rs 1 _ _ _ G_5.out (by omega) (by omega) hrs).mono ?_; rintro e w4 ⟨rfl, hr, ha⟩
    have S_6 := hidH ha.size
    have B_6 := hidH (B_5.out.trans (ha.below (by have z0 := S_0.out; have z1 := S_1.out; have z2 := S_2.out; have z3 := S_3.out; have z4 := S_4.out; have z5 := S_5.out; omega) B_5.out.size))
    have W_6 := hidH (W_5.out.apart ha (by have z0 := S_0.out; have z1 := S_1.out; have z2 := S_2.out; have z3 := S_3.out; have z4 := S_4.out; have z5 := S_5.out; omega))
    have EW_6 := hidH (EW_5.out.apart ha (by have := EW_5.out.lt; have z0 := S_0.out; have z1 := S_1.out; have z2 := S_2.out; have z3 := S_3.out; have z4 := S_4.out; have z5 := S_5.out; omega))
    have EG_6 := hidH (EG_5.out.apart ha (by have := EG_5.out.lt; have z0 := S_0.out; have z1 := S_1.out; have z2 := S_2.out; have z3 := S_3.out; have z4 := S_4.out; have z5 := S_5.out; omega))
    have G_6 := hidH hr
    clear cW cG
    clear ha hr
    clear B_5 W_5 G_5 EW_5 EG_5
    have cW := EW_6.out.cell
    have cG := EG_6.out.cell
    go_wp2_with fail
    refine (heldEng_any _ 1 rs.length _ _ _ G_6.out.lies (by omega) (by omega) hrs).mono ?_; rintro e w5 ⟨rfl, hb⟩
    have S_7 := hidH hb.size
    have B_7 := hidH (bThen B_6.out hb)
    have W_7 := hidH (W_6.out.below hb)
    have G_7 := hidH (G_6.out.below hb)
    have EW_7 := hidH (EW_6.out.below hb)
    have EG_7 := hidH (EG_6.out.below hb)
    clear cW cG
    clear hb
    clear B_6 W_6 G_6 EW_6 EG_6
    have cW := EW_7.out.cell
    have cG := EG_7.out.cell
    go_wp2_with fail
    refine (HIM.out _ B_7.out).mono ?_; rintro e w6 ⟨h, rfl, hr, hb⟩
    have S_8 := hidH hb.size
    have B_8 := hidH (bThen B_7.out hb)
    have W_8 := hidH (W_7.out.below hb)
    have G_8 := hidH (G_7.out.below hb)
    have EW_8 := hidH (EW_7.out.below hb)
    have EG_8 := hidH (EG_7.out.below hb)
    have H_8 := hidH hr
    clear cW cG
    clear hb hr
    clear B_7 W_7 G_7 EW_7 EG_7
    have cW := EW_8.out.cell
    have cG := EG_8.out.cell
    obtain ⟨ah, ch, rfl⟩ := H_8.out.some
    have B_9 := hidH (bMore B_8.out (.cells #[.slice ah rs.length ch] 26))
    have S_9 : Hid (w6.heap.size + 1 ≤ (w6.alloc (.cells #[.slice ah rs.length ch] 26)).heap.size) := hidH (by simp)
    have W_9 := hidH (W_8.out.below (belowN w6 (.cells #[.slice ah rs.length ch] 26)))
    have G_9 := hidH (G_8.out.below (belowN w6 (.cells #[.slice ah rs.length ch] 26)))
    have H_9 := hidH (H_8.out.below (belowN w6 (.cells #[.slice ah rs.length ch] 26)))
    have EW_9 := hidH (EW_8.out.below (belowN w6 (.cells #[.slice ah rs.length ch] 26)))
    have EG_9 := hidH (EG_8.out.below (belowN w6 (.cells #[.slice ah rs.length ch] 26)))
    have EH_9 := hidH (EngAt.fresh w6 (.slice ah rs.length ch))
    clear cW cG
    clear B_8 W_8 G_8 H_8 EW_8 EG_8
    have cW := EW_9.out.cell
    have cG := EG_9.out.cell
    have cH := EH_9.out.cell
    go_wp2_with fail
    refine (eqEng_yes _ _ rs _ _ _ _ _ H_9.out.lies W_9.out.lies).mono ?_; rintro e w7 ⟨rfl, hb⟩
    have S_10 := hidH hb.size
    have B_10 := hidH (bThen B_9.out hb)
    have W_10 := hidH (W_9.out.below hb)
    have G_10 := hidH (G_9.out.below hb)
    have H_10 := hidH (H_9.out.below hb)
    have EW_10 := hidH (EW_9.out.below hb)
    have EG_10 := hidH (EG_9.out.below hb)
    have EH_10 := hidH (EH_9.out.below hb)
    clear cW cG cH
    clear hb
    clear B_9 W_9 G_9 H_9 EW_9 EG_9 EH_9
    have cW := EW_10.out.cell
    have cG := EG_10.out.cell
    have cH := EH_10.out.cell
    go_wp2_with fail
    refine (heldEng_any _ 1 rs.length _ _ _ G_10.out.lies (by omega) (by omega) hrs).mono ?_; rintro e w8 ⟨rfl, hb⟩
    have S_11 := hidH hb.size
    have B_11 := hidH (bThen B_10.out hb)
    have W_11 := hidH (W_10.out.below hb)
    have G_11 := hidH (G_10.out.below hb)
    have H_11 := hidH (H_10.out.below hb)
    have EW_11 := hidH (EW_10.out.below hb)
    have EG_11 := hidH (EG_10.out.below hb)
    have EH_11 := hidH (EH_10.out.below hb)
    clear cW cG cH
    clear hb
    clear B_10 W_10 G_10 H_10 EW_10 EG_10 EH_10
    have cW := EW_11.out.cell
    have cG := EG_11.out.cell
    have cH := EH_11.out.cell
    go_wp2
    go_ret
    exact ⟨rfl, B_11.out⟩
end Go.Proofs.YtffmhcahiabicaaDoor
