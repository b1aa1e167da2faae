/-
  The walks of the exact laws of PlanValid, PlanLength, PlanDegree and PlanCost. No conditions but that slices fit in memory.
-/
import Derived.Test.YteacpfejjphabaaPlnG
import Derived.Test.YteacpfejjphabaaPlnB
import Derived.Test.YteacpfejjphabaaSl
namespace Go.Proofs.Yteacpfejjphabaa
set_option maxRecDepth 4000
open Go.RowKit
set_option maxHeartbeats 1600000 in
theorem exPlanValid (v : Value) (cs : List (Int × List Int)) (w : World) (hv : LiesSg w w.heap.size v cs) : Calls Try.prog 3 #[v] w (Gives (.bool true) w) := by
  have HV := hidH hv
  obtain ⟨a, cap, rfl, hlc, hcm⟩ := hv.len
  unfold maxLen at hcm
  clear hv
  go_enter Try.func3, Try.ntmps3
  go_wp2_with fail
  refine (szSg_any _ cs 1048576 _ _ HV.out (Nat.le_refl _)).mono ?_; rintro e w1 ⟨r, rfl, hr, hb⟩
  have B1 := hidH hb
  have s1 := hb.size
  clear hb
  rcases hr with rfl | ⟨⟨m, rfl, hm⟩, hl1, hl2⟩
  · go_wp2_with fail
    go_ret
    exact ⟨rfl, B1.out⟩
  have HL2 := hidH hl2
  clear hl2
  go_wp2_with fail
  refine (toSgs_any _ cs _ ((HV.out.below B1.out).mono B1.out.size) hl1 HL2.out).mono ?_; rintro e w2 ⟨t, rfl, hr, hb⟩
  have B2 := hidH (bThen B1.out hb)
  have s2 := hb.size
  have T_2 := hidH hr
  clear hb B1  hr
  go_wp2_with fail
  refine (sPlanValid_any _ cs _ _ T_2.out.lies hl1).mono ?_; rintro e w3 ⟨rfl, hb⟩
  have B3 := hidH (bThen B2.out hb)
  have s3 := hb.size
  have T_3 := hidH (T_2.out.below hb)
  clear hb B2 T_2
  clear T_3
  go_wp2_with fail
  refine (toSgs_any _ cs _ ((HV.out.below B3.out).mono B3.out.size) hl1 HL2.out).mono ?_; rintro e w4 ⟨x, rfl, hr, hb⟩
  have B4 := hidH (bThen B3.out hb)
  have s4 := hb.size
  have X_4 := hidH hr
  clear hb B3  hr
  go_wp2_with fail
  refine (planValid_any _ cs _ _ X_4.out.lies hl1).mono ?_; rintro e w5 ⟨rfl, hb⟩
  have B5 := hidH (bThen B4.out hb)
  have s5 := hb.size
  have X_5 := hidH (X_4.out.below hb)
  clear hb B4 X_4
  generalize planOk cs = r0 at *
  go_wp2_with fail
  refine (toSgs_any _ cs _ ((HV.out.below B5.out).mono B5.out.size) hl1 HL2.out).mono ?_; rintro e w6 ⟨y, rfl, hr, hb⟩
  have B6 := hidH (bThen B5.out hb)
  have s6 := hb.size
  have X_6 := hidH (X_5.out.below hb)
  have Y_6 := hidH hr
  clear hb B5 X_5 hr
  go_wp2_with fail
  refine (eqSg_yes x y cs _ _ _ X_6.out.lies Y_6.out.lies hl1).mono ?_; rintro e w7 ⟨rfl, hb⟩
  have B7 := hidH (bThen B6.out hb)
  have s7 := hb.size
  have X_7 := hidH (X_6.out.below hb)
  have Y_7 := hidH (Y_6.out.below hb)
  clear hb B6 X_6 Y_6
  clear Y_7
  go_wp2_with fail
  go_ret
  exact ⟨rfl, B7.out⟩
set_option maxHeartbeats 1600000 in
theorem exPlanLength (v : Value) (cs : List (Int × List Int)) (w : World) (hv : LiesSg w w.heap.size v cs) : Calls Try.prog 4 #[v] w (Gives (.bool true) w) := by
  have HV := hidH hv
  obtain ⟨a, cap, rfl, hlc, hcm⟩ := hv.len
  unfold maxLen at hcm
  clear hv
  go_enter Try.func4, Try.ntmps4
  go_wp2_with fail
  refine (szSg_any _ cs 1048576 _ _ HV.out (Nat.le_refl _)).mono ?_; rintro e w1 ⟨r, rfl, hr, hb⟩
  have B1 := hidH hb
  have s1 := hb.size
  clear hb
  rcases hr with rfl | ⟨⟨m, rfl, hm⟩, hl1, hl2⟩
  · go_wp2_with fail
    go_ret
    exact ⟨rfl, B1.out⟩
  have HL2 := hidH hl2
  clear hl2
  go_wp2_with fail
  refine (toSgs_any _ cs _ ((HV.out.below B1.out).mono B1.out.size) hl1 HL2.out).mono ?_; rintro e w2 ⟨t, rfl, hr, hb⟩
  have B2 := hidH (bThen B1.out hb)
  have s2 := hb.size
  have T_2 := hidH hr
  clear hb B1  hr
  go_wp2_with fail
  refine (sPlanLength_any _ cs _ _ T_2.out.lies hl1).mono ?_; rintro e w3 ⟨rfl, hb⟩
  have B3 := hidH (bThen B2.out hb)
  have s3 := hb.size
  have T_3 := hidH (T_2.out.below hb)
  clear hb B2 T_2
  clear T_3
  go_wp2_with fail
  refine (toSgs_any _ cs _ ((HV.out.below B3.out).mono B3.out.size) hl1 HL2.out).mono ?_; rintro e w4 ⟨x, rfl, hr, hb⟩
  have B4 := hidH (bThen B3.out hb)
  have s4 := hb.size
  have X_4 := hidH hr
  clear hb B3  hr
  go_wp2_with fail
  refine (planLength_any _ cs _ _ X_4.out.lies hl1).mono ?_; rintro e w5 ⟨rfl, hb⟩
  have B5 := hidH (bThen B4.out hb)
  have s5 := hb.size
  have X_5 := hidH (X_4.out.below hb)
  clear hb B4 X_4
  generalize plenA cs = r0 at *
  go_wp2_with fail
  refine (toSgs_any _ cs _ ((HV.out.below B5.out).mono B5.out.size) hl1 HL2.out).mono ?_; rintro e w6 ⟨y, rfl, hr, hb⟩
  have B6 := hidH (bThen B5.out hb)
  have s6 := hb.size
  have X_6 := hidH (X_5.out.below hb)
  have Y_6 := hidH hr
  clear hb B5 X_5 hr
  go_wp2_with fail
  refine (eqSg_yes x y cs _ _ _ X_6.out.lies Y_6.out.lies hl1).mono ?_; rintro e w7 ⟨rfl, hb⟩
  have B7 := hidH (bThen B6.out hb)
  have s7 := hb.size
  have X_7 := hidH (X_6.out.below hb)
  have Y_7 := hidH (Y_6.out.below hb)
  clear hb B6 X_6 Y_6
  clear Y_7
  go_wp2_with fail
  go_ret
  exact ⟨rfl, B7.out⟩
set_option maxHeartbeats 1600000 in
theorem exPlanDegree (v : Value) (cs : List (Int × List Int)) (w : World) (hv : LiesSg w w.heap.size v cs) : Calls Try.prog 6 #[v] w (Gives (.bool true) w) := by
  have HV := hidH hv
  obtain ⟨a, cap, rfl, hlc, hcm⟩ := hv.len
  unfold maxLen at hcm
  clear hv
  go_enter Try.func6, Try.ntmps6
  go_wp2_with fail
  refine (szSg_any _ cs 1048576 _ _ HV.out (Nat.le_refl _)).mono ?_; rintro e w1 ⟨r, rfl, hr, hb⟩
  have B1 := hidH hb
  have s1 := hb.size
  clear hb
  rcases hr with rfl | ⟨⟨m, rfl, hm⟩, hl1, hl2⟩
  · go_wp2_with fail
    go_ret
    exact ⟨rfl, B1.out⟩
  have HL2 := hidH hl2
  clear hl2
  go_wp2_with fail
  refine (toSgs_any _ cs _ ((HV.out.below B1.out).mono B1.out.size) hl1 HL2.out).mono ?_; rintro e w2 ⟨t, rfl, hr, hb⟩
  have B2 := hidH (bThen B1.out hb)
  have s2 := hb.size
  have T_2 := hidH hr
  clear hb B1  hr
  go_wp2_with fail
  refine (sPlanDegree_any _ cs _ _ T_2.out.lies hl1).mono ?_; rintro e w3 ⟨rfl, hb⟩
  have B3 := hidH (bThen B2.out hb)
  have s3 := hb.size
  have T_3 := hidH (T_2.out.below hb)
  clear hb B2 T_2
  clear T_3
  go_wp2_with fail
  refine (toSgs_any _ cs _ ((HV.out.below B3.out).mono B3.out.size) hl1 HL2.out).mono ?_; rintro e w4 ⟨x, rfl, hr, hb⟩
  have B4 := hidH (bThen B3.out hb)
  have s4 := hb.size
  have X_4 := hidH hr
  clear hb B3  hr
  go_wp2_with fail
  refine (planDegree_any _ cs _ _ X_4.out.lies hl1).mono ?_; rintro e w5 ⟨rfl, hb⟩
  have B5 := hidH (bThen B4.out hb)
  have s5 := hb.size
  have X_5 := hidH (X_4.out.below hb)
  clear hb B4 X_4
  generalize pdegA cs = r0 at *
  go_wp2_with fail
  refine (toSgs_any _ cs _ ((HV.out.below B5.out).mono B5.out.size) hl1 HL2.out).mono ?_; rintro e w6 ⟨y, rfl, hr, hb⟩
  have B6 := hidH (bThen B5.out hb)
  have s6 := hb.size
  have X_6 := hidH (X_5.out.below hb)
  have Y_6 := hidH hr
  clear hb B5 X_5 hr
  go_wp2_with fail
  refine (eqSg_yes x y cs _ _ _ X_6.out.lies Y_6.out.lies hl1).mono ?_; rintro e w7 ⟨rfl, hb⟩
  have B7 := hidH (bThen B6.out hb)
  have s7 := hb.size
  have X_7 := hidH (X_6.out.below hb)
  have Y_7 := hidH (Y_6.out.below hb)
  clear hb B6 X_6 Y_6
  clear Y_7
  go_wp2_with fail
  go_ret
  exact ⟨rfl, B7.out⟩
set_option maxHeartbeats 1600000 in
theorem exPlanCost (v : Value) (cs : List (Int × List Int)) (n1 : Int) (n2 : Int) (w : World) (hv : LiesSg w w.heap.size v cs) : Calls Try.prog 7 #[v, .int .i64 n1, .int .i64 n2] w (Gives (.bool true) w) := by
  have HV := hidH hv
  obtain ⟨a, cap, rfl, hlc, hcm⟩ := hv.len
  unfold maxLen at hcm
  clear hv
  go_enter Try.func7, Try.ntmps7
  go_wp2_with fail
  refine (szSg_any _ cs 1048576 _ _ HV.out (Nat.le_refl _)).mono ?_; rintro e w1 ⟨r, rfl, hr, hb⟩
  have B1 := hidH hb
  have s1 := hb.size
  clear hb
  rcases hr with rfl | ⟨⟨m, rfl, hm⟩, hl1, hl2⟩
  · go_wp2_with fail
    go_ret
    exact ⟨rfl, B1.out⟩
  have HL2 := hidH hl2
  clear hl2
  go_wp2_with fail
  refine (toSgs_any _ cs _ ((HV.out.below B1.out).mono B1.out.size) hl1 HL2.out).mono ?_; rintro e w2 ⟨t, rfl, hr, hb⟩
  have B2 := hidH (bThen B1.out hb)
  have s2 := hb.size
  have T_2 := hidH hr
  clear hb B1  hr
  go_wp2_with fail
  refine (sPlanCost_any _ cs _ _ T_2.out.lies hl1 n1 n2).mono ?_; rintro e w3 ⟨rfl, hb⟩
  have B3 := hidH (bThen B2.out hb)
  have s3 := hb.size
  have T_3 := hidH (T_2.out.below hb)
  clear hb B2 T_2
  clear T_3
  go_wp2_with fail
  refine (toSgs_any _ cs _ ((HV.out.below B3.out).mono B3.out.size) hl1 HL2.out).mono ?_; rintro e w4 ⟨x, rfl, hr, hb⟩
  have B4 := hidH (bThen B3.out hb)
  have s4 := hb.size
  have X_4 := hidH hr
  clear hb B3  hr
  go_wp2_with fail
  refine (planCost_any _ cs _ _ X_4.out.lies hl1 n1 n2).mono ?_; rintro e w5 ⟨rfl, hb⟩
  have B5 := hidH (bThen B4.out hb)
  have s5 := hb.size
  have X_5 := hidH (X_4.out.below hb)
  clear hb B4 X_4
  generalize pcostA cs n1 n2 = r0 at *
  go_wp2_with fail
  refine (toSgs_any _ cs _ ((HV.out.below B5.out).mono B5.out.size) hl1 HL2.out).mono ?_; rintro e w6 ⟨y, rfl, hr, hb⟩
  have B6 := hidH (bThen B5.out hb)
  have s6 := hb.size
  have X_6 := hidH (X_5.out.below hb)
  have Y_6 := hidH hr
  clear hb B5 X_5 hr
  go_wp2_with fail
  refine (eqSg_yes x y cs _ _ _ X_6.out.lies Y_6.out.lies hl1).mono ?_; rintro e w7 ⟨rfl, hb⟩
  have B7 := hidH (bThen B6.out hb)
  have s7 := hb.size
  have X_7 := hidH (X_6.out.below hb)
  have Y_7 := hidH (Y_6.out.below hb)
  clear hb B6 X_6 Y_6
  clear Y_7
  go_wp2_with fail
  go_ret
  exact ⟨rfl, B7.out⟩
end Go.Proofs.Yteacpfejjphabaa
