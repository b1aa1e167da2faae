/-
  The walks of the exact laws of EngineValid and ResultOf. Condition: texts that fit in memory.
-/
import Derived.Test.YtliakbgigkajnaaDoorEngA
import Derived.Test.YtliakbgigkajnaaDoorEngEx
namespace Go.Proofs.YtliakbgigkajnaaDoor
set_option maxRecDepth 4000
open Go.RowKit
set_option maxHeartbeats 4000000 in
theorem exEngineValid (v0 : Value) (cs0 : List ByteArray) (w : World) (hv0 : LiesS w 0 w.heap.size v0 cs0) (hm0 : ∀ c ∈ cs0, c.size ≤ 9223372036854775807) : Calls Tryd.prog 3 #[.agg #[v0]] w (Gives (.bool true) w) := by
  have HV0 := hidH hv0
  have HM0 := hidH hm0
  obtain ⟨a0, cap0, rfl⟩ := hv0.some
  have B_0 := hidH (belowN w (.cells #[.slice a0 cs0.length cap0] 24))
  have EA_0 := hidH (LEngAt.fresh w (.slice a0 cs0.length cap0))
  have cA := EA_0.out.cell
  clear hv0 hm0
  go_enter Tryd.func3, Tryd.ntmps3
  go_wp2_with fail
  refine (szEng_any _ cs0 1048576 _ _ _ (HV0.out.below B_0.out) HM0.out (by omega)).mono ?_; rintro e w1 ⟨r, rfl, hr, hb⟩
  have s1 := hb.size
  have B_1 := hidH (bThen B_0.out hb)
  have EA_1 := hidH (EA_0.out.below hb)
  clear cA
  clear hb
  clear B_0  EA_0
  have cA := EA_1.out.cell
  rcases hr with rfl | ⟨⟨m, rfl, _⟩, hn0, hz0⟩
  · go_wp2
    go_ret
    exact ⟨rfl, B_1.out⟩
  · have HT := hidH (fun W (hb : Below w.heap.size w W) => toEng_any (.slice a0 cs0.length cap0) cs0 W ((HV0.out.below hb).mono (Nat.le_refl _) hb.size) hn0)
    clear hz0
    have HSP := hidH (fun W t lo hi (h : LiesS W lo hi t cs0) => sEngValid_any t cs0 W lo hi h HM0.out)
    have HIM := hidH (fun W t lo hi (h : LiesS W lo hi t cs0) => engValid_any t cs0 W lo hi h HM0.out)
    generalize engOk cs0 = ra at HSP HIM
    go_wp2_with fail
    refine (HT.out _ B_1.out).mono ?_; rintro e w2 ⟨t, rfl, hr, hb⟩
    have s2 := hb.size
    have B_2 := hidH (bThen B_1.out hb)
    have EA_2 := hidH (EA_1.out.below hb)
    have T_2 := hidH hr
    clear cA
    clear hb hr
    clear B_1  EA_1
    have cA := EA_2.out.cell
    go_wp2_with fail
    refine (HSP.out _ _ _ _ T_2.out.lies).mono ?_; rintro e w3 ⟨rfl, hb⟩
    have s3 := hb.size
    have B_3 := hidH (bThen B_2.out hb)
    have T_3 := hidH (T_2.out.below hb)
    have EA_3 := hidH (EA_2.out.below hb)
    clear cA
    clear hb
    clear B_2 T_2 EA_2
    have cA := EA_3.out.cell
    clear T_3
    go_wp2_with fail
    refine (HT.out _ B_3.out).mono ?_; rintro e w4 ⟨x0, rfl, hr, hb⟩
    have s4 := hb.size
    have B_4 := hidH (bThen B_3.out hb)
    have EA_4 := hidH (EA_3.out.below hb)
    have X_4 := hidH hr
    clear cA
    clear hb hr
    clear B_3  EA_3
    have cA := EA_4.out.cell
    obtain ⟨ax, cx, rfl⟩ := X_4.out.some
    go_wp2_with fail
    have B_5 := hidH (bMore B_4.out (.cells #[.slice ax cs0.length cx] 27))
    have s5 : w4.heap.size ≤ (w4.alloc (.cells #[.slice ax cs0.length cx] 27)).heap.size := (belowN w4 (.cells #[.slice ax cs0.length cx] 27)).size
    have X_5 := hidH (X_4.out.below (belowN w4 (.cells #[.slice ax cs0.length cx] 27)))
    have EA_5 := hidH (EA_4.out.below (belowN w4 (.cells #[.slice ax cs0.length cx] 27)))
    have EX_5 := hidH (EngAt.fresh w4 (.slice ax cs0.length cx))
    clear cA
    clear B_4 X_4 EA_4
    have cA := EA_5.out.cell
    have cX := EX_5.out.cell
    refine (HIM.out _ _ _ _ X_5.out.lies).mono ?_; rintro e w5 ⟨rfl, hb⟩
    have s6 := hb.size
    have B_6 := hidH (bThen B_5.out hb)
    have X_6 := hidH (X_5.out.below hb)
    have EA_6 := hidH (EA_5.out.below hb)
    have EX_6 := hidH (EX_5.out.below hb)
    clear cA cX
    clear hb
    clear B_5 X_5 EA_5 EX_5
    have cA := EA_6.out.cell
    have cX := EX_6.out.cell
    go_wp2_with fail
    go_region_with (first
      | (go_at_call 11; (with_reducible refine (HT.out _ B_6.out.drew).mono ?_); rintro e w6 ⟨yy, rfl, hr, hb⟩; (have B_7 := hidH (bThen B_6.out.drew hb)); (have YY := hidH hr); (have X_7 := hidH (X_6.out.below (bDrew hb))); (have EA_7 := hidH (EA_6.out.below (bDrew hb))); (have dA := EA_7.out.cell); (have EX_7 := hidH (EX_6.out.below (bDrew hb))); (have dX := EX_7.out.cell); clear hb hr)
      | (go_at_call 13; (with_reducible refine (eqEng_yes _ _ cs0 _ _ _ _ _ X_7.out.lies YY.out.lies).mono ?_); rintro e w7 ⟨rfl, hb⟩; (have B_8 := hidH (bThen B_7.out hb)); (have X_8 := hidH (X_7.out.below hb)); (have EA_8 := hidH (EA_7.out.below hb)); (have EX_8 := hidH (EX_7.out.below hb)); clear hb))
    all_goals
      clear cA dA
      clear cX dX
      clear YY B_6 B_7 X_6 X_7 EA_6 EA_7 EX_6 EX_7
      have cA := EA_8.out.cell
      have cX := EX_8.out.cell
      go_wp2
      go_ret
      exact ⟨rfl, B_8.out⟩

set_option maxHeartbeats 4000000 in
theorem exResultOf (v0 : Value) (cs0 : List ByteArray) (w : World) (hv0 : LiesS w 0 w.heap.size v0 cs0) (hm0 : ∀ c ∈ cs0, c.size ≤ 9223372036854775807) : Calls Tryd.prog 4 #[.agg #[v0]] w (Gives (.bool true) w) := by
  have HV0 := hidH hv0
  have HM0 := hidH hm0
  obtain ⟨a0, cap0, rfl⟩ := hv0.some
  have B_0 := hidH (belowN w (.cells #[.slice a0 cs0.length cap0] 24))
  have EA_0 := hidH (LEngAt.fresh w (.slice a0 cs0.length cap0))
  have cA := EA_0.out.cell
  clear hv0 hm0
  go_enter Tryd.func4, Tryd.ntmps4
  go_wp2_with fail
  refine (szEng_any _ cs0 1048576 _ _ _ (HV0.out.below B_0.out) HM0.out (by omega)).mono ?_; rintro e w1 ⟨r, rfl, hr, hb⟩
  have s1 := hb.size
  have B_1 := hidH (bThen B_0.out hb)
  have EA_1 := hidH (EA_0.out.below hb)
  clear cA
  clear hb
  clear B_0  EA_0
  have cA := EA_1.out.cell
  rcases hr with rfl | ⟨⟨m, rfl, _⟩, hn0, hz0⟩
  · go_wp2
    go_ret
    exact ⟨rfl, B_1.out⟩
  · have HT := hidH (fun W (hb : Below w.heap.size w W) => toEng_any (.slice a0 cs0.length cap0) cs0 W ((HV0.out.below hb).mono (Nat.le_refl _) hb.size) hn0)
    clear hz0
    have HSP := hidH (fun W t lo hi (h : LiesS W lo hi t cs0) => sResultOf_any t cs0 W lo hi h HM0.out)
    have HIM := hidH (fun W t lo hi (h : LiesS W lo hi t cs0) => resultOf_any t cs0 W lo hi h HM0.out)
    obtain ⟨x, y, hres⟩ : ∃ (x : Int) (y : Bool), resA cs0 = .tuple #[.int .i64 x, .bool y] := by unfold resA; split <;> exact ⟨_, _, rfl⟩
    rw [hres] at HSP HIM
    clear hres
    go_wp2_with fail
    refine (HT.out _ B_1.out).mono ?_; rintro e w2 ⟨t, rfl, hr, hb⟩
    have s2 := hb.size
    have B_2 := hidH (bThen B_1.out hb)
    have EA_2 := hidH (EA_1.out.below hb)
    have T_2 := hidH hr
    clear cA
    clear hb hr
    clear B_1  EA_1
    have cA := EA_2.out.cell
    go_wp2_with fail
    refine (HSP.out _ _ _ _ T_2.out.lies).mono ?_; rintro e w3 ⟨rfl, hb⟩
    have s3 := hb.size
    have B_3 := hidH (bThen B_2.out hb)
    have T_3 := hidH (T_2.out.below hb)
    have EA_3 := hidH (EA_2.out.below hb)
    clear cA
    clear hb
    clear B_2 T_2 EA_2
    have cA := EA_3.out.cell
    clear T_3
    go_wp2_with fail
    refine (HT.out _ B_3.out).mono ?_; rintro e w4 ⟨x0, rfl, hr, hb⟩
    have s4 := hb.size
    have B_4 := hidH (bThen B_3.out hb)
    have EA_4 := hidH (EA_3.out.below hb)
    have X_4 := hidH hr
    clear cA
    clear hb hr
    clear B_3  EA_3
    have cA := EA_4.out.cell
    obtain ⟨ax, cx, rfl⟩ := X_4.out.some
    go_wp2_with fail
    have B_5 := hidH (bMore B_4.out (.cells #[.slice ax cs0.length cx] 27))
    have s5 : w4.heap.size ≤ (w4.alloc (.cells #[.slice ax cs0.length cx] 27)).heap.size := (belowN w4 (.cells #[.slice ax cs0.length cx] 27)).size
    have X_5 := hidH (X_4.out.below (belowN w4 (.cells #[.slice ax cs0.length cx] 27)))
    have EA_5 := hidH (EA_4.out.below (belowN w4 (.cells #[.slice ax cs0.length cx] 27)))
    have EX_5 := hidH (EngAt.fresh w4 (.slice ax cs0.length cx))
    clear cA
    clear B_4 X_4 EA_4
    have cA := EA_5.out.cell
    have cX := EX_5.out.cell
    refine (HIM.out _ _ _ _ X_5.out.lies).mono ?_; rintro e w5 ⟨rfl, hb⟩
    have s6 := hb.size
    have B_6 := hidH (bThen B_5.out hb)
    have X_6 := hidH (X_5.out.below hb)
    have EA_6 := hidH (EA_5.out.below hb)
    have EX_6 := hidH (EX_5.out.below hb)
    clear cA cX
    clear hb
    clear B_5 X_5 EA_5 EX_5
    have cA := EA_6.out.cell
    have cX := EX_6.out.cell
    go_wp2_with fail
    go_region_with (first
      | (go_at_call 11; (with_reducible refine (HT.out _ B_6.out.drew).mono ?_); rintro e w6 ⟨yy, rfl, hr, hb⟩; (have B_7 := hidH (bThen B_6.out.drew hb)); (have YY := hidH hr); (have X_7 := hidH (X_6.out.below (bDrew hb))); (have EA_7 := hidH (EA_6.out.below (bDrew hb))); (have dA := EA_7.out.cell); (have EX_7 := hidH (EX_6.out.below (bDrew hb))); (have dX := EX_7.out.cell); clear hb hr)
      | (go_at_call 13; (with_reducible refine (eqEng_yes _ _ cs0 _ _ _ _ _ X_7.out.lies YY.out.lies).mono ?_); rintro e w7 ⟨rfl, hb⟩; (have B_8 := hidH (bThen B_7.out hb)); (have X_8 := hidH (X_7.out.below hb)); (have EA_8 := hidH (EA_7.out.below hb)); (have EX_8 := hidH (EX_7.out.below hb)); clear hb))
    all_goals
      clear cA dA
      clear cX dX
      clear YY B_6 B_7 X_6 X_7 EA_6 EA_7 EX_6 EX_7
      have cA := EA_8.out.cell
      have cX := EX_8.out.cell
      go_wp2
      go_ret
      exact ⟨rfl, B_8.out⟩
end Go.Proofs.YtliakbgigkajnaaDoor
