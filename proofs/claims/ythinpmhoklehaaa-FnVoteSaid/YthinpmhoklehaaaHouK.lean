/-
  FaultyOne: the program and the model, at every argument. No conditions but that slices fit in memory.
-/
import Derived.Test.YthinpmhoklehaaaHouJ
import Derived.Test.YthinpmhoklehaaaErrR
import Derived.Test.YthinpmhoklehaaaErrE3
namespace Go.Proofs.Ythinpmhoklehaaa
set_option maxRecDepth 4000
open Go.RowKit
/-- Which of three lists differs from the others. -/
def faultV (x y z : List Int) : Int := if x = y ∧ y = z then -1 else if y = z then 0 else if x = z then 1 else if x = y then 2 else -2
def faultA (x y z : List Int) : Int := if threeOk x y z then faultV x y z else -3
theorem wrong_neg (x y : List Int) (h : x.length = y.length) : nzI (wrongL x y) < 0 ↔ x = y := by
  have hl := wrongL_length x y
  unfold nzI
  constructor
  · intro hn
    by_cases c : fnz (wrongL x y) < (wrongL x y).length
    · rw [if_pos c] at hn; omega
    · apply List.ext_getElem h
      intro j h1 h2
      have := fnz_low (wrongL x y) j _ (by omega) (wrongL_get x y j _ _ (List.getElem?_eq_getElem h1) (List.getElem?_eq_getElem h2))
      omega
  · rintro rfl
    have e : fnz (wrongL x x) = (wrongL x x).length := by
      refine fnz_eq _ _ (Nat.le_refl _) (fun j z hj hz => ?_) (fun z hz => by rw [List.getElem?_eq_none (Nat.le_refl _)] at hz; cases hz)
      obtain ⟨a, ha⟩ := get_lt x j (by omega)
      rw [wrongL_get x x j a a ha ha] at hz
      injection hz with hz
      omega
    rw [e, if_neg (Nat.lt_irrefl _)]
    omega
theorem fault_cases (x y z : List Int) : (x = y ∧ x = z ∧ y = z ∧ faultV x y z = -1) ∨ (¬ x = y ∧ ¬ x = z ∧ y = z ∧ faultV x y z = 0) ∨ (¬ x = y ∧ x = z ∧ ¬ y = z ∧ faultV x y z = 1) ∨ (x = y ∧ ¬ x = z ∧ ¬ y = z ∧ faultV x y z = 2) ∨ (¬ x = y ∧ ¬ x = z ∧ ¬ y = z ∧ faultV x y z = -2) := by
  unfold faultV
  by_cases h1 : x = y
  · subst h1
    by_cases h2 : x = z
    · exact .inl ⟨rfl, h2, h2, by rw [if_pos ⟨rfl, h2⟩]⟩
    · exact .inr (.inr (.inr (.inl ⟨rfl, h2, h2, by rw [if_neg (fun e => h2 e.2), if_neg h2, if_neg h2, if_pos rfl]⟩)))
  · by_cases h2 : y = z
    · exact .inr (.inl ⟨h1, fun e => h1 (by rw [e, h2]), h2, by rw [if_neg (fun e => h1 e.1), if_pos h2]⟩)
    · by_cases h3 : x = z
      · exact .inr (.inr (.inl ⟨h1, h3, h2, by rw [if_neg (fun e => h1 e.1), if_neg h2, if_pos h3]⟩))
      · exact .inr (.inr (.inr (.inr ⟨h1, h3, h2, by rw [if_neg (fun e => h1 e.1), if_neg h2, if_neg h3, if_neg h1]⟩)))
theorem faulty_no (v0 : Value) (zs0 : List Int) (v1 : Value) (zs1 : List Int) (v2 : Value) (zs2 : List Int) (w : World) (lo0 hi0 lo1 hi1 lo2 hi2 : Nat) (hv0 : Lies w lo0 hi0 v0 zs0) (hv1 : Lies w lo1 hi1 v1 zs1) (hv2 : Lies w lo2 hi2 v2 zs2) (h : threeOk zs0 zs1 zs2 = false) : Calls Try.prog 22 #[v0, v1, v2] w (Gives (.int .i64 (-3)) w) := by
  have HV0 := hidH hv0
  have HV1 := hidH hv1
  have HV2 := hidH hv2
  obtain ⟨a0, cap0, rfl, _, _, _, _⟩ := hv0
  clear hv1 hv2
  unfold threeOk at h
  cases h1 : tabsOk zs0 zs1
  · have T1 := hidH h1
    clear h1 h
    go_enter Try.func22, Try.ntmps22
    go_wp2_with fail
    refine (areTables_any _ zs0 _ zs1 _ _ _ _ _ HV0.out HV1.out).mono ?_; rintro e w1 ⟨rfl, hb⟩
    rw [T1.out]
    have B1 := hidH hb
    have HV0b := hidH (HV0.out.below hb)
    have HV2b := hidH (HV2.out.below hb)
    clear hb
    go_wp2_with fail
    go_ret
    exact ⟨rfl, B1.out⟩
  · have T1 := hidH h1
    rw [h1, Bool.true_and] at h
    have T2 := hidH h
    clear h1 h
    go_enter Try.func22, Try.ntmps22
    go_wp2_with fail
    refine (areTables_any _ zs0 _ zs1 _ _ _ _ _ HV0.out HV1.out).mono ?_; rintro e w1 ⟨rfl, hb⟩
    rw [T1.out]
    have B1 := hidH hb
    have HV0b := hidH (HV0.out.below hb)
    have HV2b := hidH (HV2.out.below hb)
    clear hb
    go_wp2_with fail
    refine (areTables_any _ zs0 _ zs2 _ _ _ _ _ HV0b.out HV2b.out).mono ?_; rintro e w2 ⟨rfl, hb⟩
    rw [T2.out]
    have B2 := hidH (bThen B1.out hb)
    clear hb HV0b HV2b
    go_wp2_with fail
    go_ret
    exact ⟨rfl, B2.out⟩
set_option maxHeartbeats 1600000 in
theorem faulty_yes (v0 : Value) (zs0 : List Int) (v1 : Value) (zs1 : List Int) (v2 : Value) (zs2 : List Int) (w : World) (lo0 hi0 lo1 hi1 lo2 hi2 : Nat) (hv0 : Lies w lo0 hi0 v0 zs0) (hv1 : Lies w lo1 hi1 v1 zs1) (hv2 : Lies w lo2 hi2 v2 zs2) (h : threeOk zs0 zs1 zs2 = true) : Calls Try.prog 22 #[v0, v1, v2] w (Gives (.int .i64 (faultV zs0 zs1 zs2)) w) := by
  have HV0 := hidH hv0
  have HV1 := hidH hv1
  have HV2 := hidH hv2
  have HT := hidH h
  obtain ⟨k0, k1, k2, l1, l2⟩ := threeOk_parts h
  have ⟨t1, t2⟩ := tableOk_len _ k0
  have HAB := hidH (fun W (hb : Below w.heap.size w W) => equal4_any v0 zs0 v1 zs1 W _ _ _ _ (HV0.out.below hb) (HV1.out.below hb) l1 (by omega) (by omega))
  have HAC := hidH (fun W (hb : Below w.heap.size w W) => equal4_any v0 zs0 v2 zs2 W _ _ _ _ (HV0.out.below hb) (HV2.out.below hb) l2 (by omega) (by omega))
  have HBC := hidH (fun W (hb : Below w.heap.size w W) => equal4_any v1 zs1 v2 zs2 W _ _ _ _ (HV1.out.below hb) (HV2.out.below hb) (by omega) (by omega) (by omega))
  have hh := h
  rw [threeOk, Bool.and_eq_true] at hh
  have T1 := hidH hh.1
  have T2 := hidH hh.2
  have FC := fault_cases zs0 zs1 zs2
  clear hv0 hv1 hv2 k0 k1 k2 hh h t1 t2 l1 l2
  rcases FC with ⟨eab, eac, ebc, ev⟩ | ⟨eab, eac, ebc, ev⟩ | ⟨eab, eac, ebc, ev⟩ | ⟨eab, eac, ebc, ev⟩ | ⟨eab, eac, ebc, ev⟩
  · have EAB := hidH eab
    have EAC := hidH eac
    have EBC := hidH ebc
    rw [ev]
    clear eab eac ebc ev
    rw [decide_eq_true EAB.out] at HAB
    rw [decide_eq_true EAC.out] at HAC
    rw [decide_eq_true EBC.out] at HBC
    go_enter Try.func22, Try.ntmps22
    go_wp2_with fail
    refine (areTables_any _ zs0 _ zs1 _ _ _ _ _ HV0.out HV1.out).mono ?_; rintro e w1 ⟨rfl, hb⟩
    rw [T1.out]
    have B1 := hidH hb
    have HV0b := hidH (HV0.out.below hb)
    have HV2b := hidH (HV2.out.below hb)
    clear hb
    go_wp2_with fail
    refine (areTables_any _ zs0 _ zs2 _ _ _ _ _ HV0b.out HV2b.out).mono ?_; rintro e w2 ⟨rfl, hb⟩
    rw [T2.out]
    have B2 := hidH (bThen B1.out hb)
    clear hb HV0b HV2b
    go_wp2_with fail
    refine (HAB.out _ B2.out).mono ?_; rintro e w3 ⟨rfl, q3, rfl⟩
    go_wp2_with fail
    refine (HBC.out _ (below_drewN B2.out _)).mono ?_; rintro e w4 ⟨rfl, q4, rfl⟩
    go_wp2_with fail
    go_ret
    exact ⟨rfl, below_drewN B2.out _⟩
  · have EAB := hidH eab
    have EAC := hidH eac
    have EBC := hidH ebc
    rw [ev]
    clear eab eac ebc ev
    rw [decide_eq_false EAB.out] at HAB
    rw [decide_eq_false EAC.out] at HAC
    rw [decide_eq_true EBC.out] at HBC
    go_enter Try.func22, Try.ntmps22
    go_wp2_with fail
    refine (areTables_any _ zs0 _ zs1 _ _ _ _ _ HV0.out HV1.out).mono ?_; rintro e w1 ⟨rfl, hb⟩
    rw [T1.out]
    have B1 := hidH hb
    have HV0b := hidH (HV0.out.below hb)
    have HV2b := hidH (HV2.out.below hb)
    clear hb
    go_wp2_with fail
    refine (areTables_any _ zs0 _ zs2 _ _ _ _ _ HV0b.out HV2b.out).mono ?_; rintro e w2 ⟨rfl, hb⟩
    rw [T2.out]
    have B2 := hidH (bThen B1.out hb)
    clear hb HV0b HV2b
    go_wp2_with fail
    refine (HAB.out _ B2.out).mono ?_; rintro e w3 ⟨rfl, q3, rfl⟩
    go_wp2_with fail
    refine (HBC.out _ (below_drewN B2.out _)).mono ?_; rintro e w4 ⟨rfl, q4, rfl⟩
    go_wp2_with fail
    go_ret
    exact ⟨rfl, below_drewN B2.out _⟩
  · have EAB := hidH eab
    have EAC := hidH eac
    have EBC := hidH ebc
    rw [ev]
    clear eab eac ebc ev
    rw [decide_eq_false EAB.out] at HAB
    rw [decide_eq_true EAC.out] at HAC
    rw [decide_eq_false EBC.out] at HBC
    go_enter Try.func22, Try.ntmps22
    go_wp2_with fail
    refine (areTables_any _ zs0 _ zs1 _ _ _ _ _ HV0.out HV1.out).mono ?_; rintro e w1 ⟨rfl, hb⟩
    rw [T1.out]
    have B1 := hidH hb
    have HV0b := hidH (HV0.out.below hb)
    have HV2b := hidH (HV2.out.below hb)
    clear hb
    go_wp2_with fail
    refine (areTables_any _ zs0 _ zs2 _ _ _ _ _ HV0b.out HV2b.out).mono ?_; rintro e w2 ⟨rfl, hb⟩
    rw [T2.out]
    have B2 := hidH (bThen B1.out hb)
    clear hb HV0b HV2b
    go_wp2_with fail
    refine (HAB.out _ B2.out).mono ?_; rintro e w3 ⟨rfl, q3, rfl⟩
    go_wp2_with fail
    refine (HBC.out _ (below_drewN B2.out _)).mono ?_; rintro e w4 ⟨rfl, q4, rfl⟩
    go_wp2_with fail
    refine (HAC.out _ (below_drewN B2.out _)).mono ?_; rintro e w5 ⟨rfl, q5, rfl⟩
    go_wp2_with fail
    go_ret
    exact ⟨rfl, below_drewN B2.out _⟩
  · have EAB := hidH eab
    have EAC := hidH eac
    have EBC := hidH ebc
    rw [ev]
    clear eab eac ebc ev
    rw [decide_eq_true EAB.out] at HAB
    rw [decide_eq_false EAC.out] at HAC
    rw [decide_eq_false EBC.out] at HBC
    go_enter Try.func22, Try.ntmps22
    go_wp2_with fail
    refine (areTables_any _ zs0 _ zs1 _ _ _ _ _ HV0.out HV1.out).mono ?_; rintro e w1 ⟨rfl, hb⟩
    rw [T1.out]
    have B1 := hidH hb
    have HV0b := hidH (HV0.out.below hb)
    have HV2b := hidH (HV2.out.below hb)
    clear hb
    go_wp2_with fail
    refine (areTables_any _ zs0 _ zs2 _ _ _ _ _ HV0b.out HV2b.out).mono ?_; rintro e w2 ⟨rfl, hb⟩
    rw [T2.out]
    have B2 := hidH (bThen B1.out hb)
    clear hb HV0b HV2b
    go_wp2_with fail
    refine (HAB.out _ B2.out).mono ?_; rintro e w3 ⟨rfl, q3, rfl⟩
    go_wp2_with fail
    refine (HBC.out _ (below_drewN B2.out _)).mono ?_; rintro e w4 ⟨rfl, q4, rfl⟩
    go_wp2_with fail
    refine (HBC.out _ (below_drewN B2.out _)).mono ?_; rintro e w5 ⟨rfl, q5, rfl⟩
    go_wp2_with fail
    refine (HAC.out _ (below_drewN B2.out _)).mono ?_; rintro e w6 ⟨rfl, q6, rfl⟩
    go_wp2_with fail
    refine (HAB.out _ (below_drewN B2.out _)).mono ?_; rintro e w7 ⟨rfl, q7, rfl⟩
    go_wp2_with fail
    go_ret
    exact ⟨rfl, below_drewN B2.out _⟩
  · have EAB := hidH eab
    have EAC := hidH eac
    have EBC := hidH ebc
    rw [ev]
    clear eab eac ebc ev
    rw [decide_eq_false EAB.out] at HAB
    rw [decide_eq_false EAC.out] at HAC
    rw [decide_eq_false EBC.out] at HBC
    go_enter Try.func22, Try.ntmps22
    go_wp2_with fail
    refine (areTables_any _ zs0 _ zs1 _ _ _ _ _ HV0.out HV1.out).mono ?_; rintro e w1 ⟨rfl, hb⟩
    rw [T1.out]
    have B1 := hidH hb
    have HV0b := hidH (HV0.out.below hb)
    have HV2b := hidH (HV2.out.below hb)
    clear hb
    go_wp2_with fail
    refine (areTables_any _ zs0 _ zs2 _ _ _ _ _ HV0b.out HV2b.out).mono ?_; rintro e w2 ⟨rfl, hb⟩
    rw [T2.out]
    have B2 := hidH (bThen B1.out hb)
    clear hb HV0b HV2b
    go_wp2_with fail
    refine (HAB.out _ B2.out).mono ?_; rintro e w3 ⟨rfl, q3, rfl⟩
    go_wp2_with fail
    refine (HBC.out _ (below_drewN B2.out _)).mono ?_; rintro e w4 ⟨rfl, q4, rfl⟩
    go_wp2_with fail
    refine (HAC.out _ (below_drewN B2.out _)).mono ?_; rintro e w5 ⟨rfl, q5, rfl⟩
    go_wp2_with fail
    refine (HAB.out _ (below_drewN B2.out _)).mono ?_; rintro e w6 ⟨rfl, q6, rfl⟩
    go_wp2_with fail
    go_ret
    exact ⟨rfl, below_drewN B2.out _⟩
theorem faulty_any (v0 : Value) (zs0 : List Int) (v1 : Value) (zs1 : List Int) (v2 : Value) (zs2 : List Int) (w : World) (lo0 hi0 lo1 hi1 lo2 hi2 : Nat) (hv0 : Lies w lo0 hi0 v0 zs0) (hv1 : Lies w lo1 hi1 v1 zs1) (hv2 : Lies w lo2 hi2 v2 zs2) : Calls Try.prog 22 #[v0, v1, v2] w (Gives (.int .i64 (faultA zs0 zs1 zs2)) w) := by
  unfold faultA
  cases h : threeOk zs0 zs1 zs2
  · exact faulty_no v0 zs0 v1 zs1 v2 zs2 w lo0 hi0 lo1 hi1 lo2 hi2 hv0 hv1 hv2 h
  · exact faulty_yes v0 zs0 v1 zs1 v2 zs2 w lo0 hi0 lo1 hi1 lo2 hi2 hv0 hv1 hv2 h
theorem sFaulty_no (v0 : Value) (zs0 : List Int) (v1 : Value) (zs1 : List Int) (v2 : Value) (zs2 : List Int) (w : World) (lo0 hi0 lo1 hi1 lo2 hi2 : Nat) (hv0 : Lies w lo0 hi0 v0 zs0) (hv1 : Lies w lo1 hi1 v1 zs1) (hv2 : Lies w lo2 hi2 v2 zs2) (h : threeOk zs0 zs1 zs2 = false) : Calls Try.prog 24 #[v0, v1, v2] w (Gives (.int .i64 (-3)) w) := by
  have HT3 := hidH (sThree_any v0 zs0 v1 zs1 v2 zs2 w lo0 hi0 lo1 hi1 lo2 hi2 hv0 hv1 hv2)
  rw [h] at HT3
  clear h hv0 hv1 hv2
  go_enter Try.func24, Try.ntmps24
  go_wp2_with fail
  refine HT3.out.mono ?_; rintro e w2 ⟨rfl, hb⟩
  have B2 := hidH hb
  clear hb
  go_wp2_with fail
  go_ret
  exact ⟨rfl, B2.out⟩
set_option maxHeartbeats 1600000 in
theorem sFaulty_yes (v0 : Value) (zs0 : List Int) (v1 : Value) (zs1 : List Int) (v2 : Value) (zs2 : List Int) (w : World) (lo0 hi0 lo1 hi1 lo2 hi2 : Nat) (hv0 : Lies w lo0 hi0 v0 zs0) (hv1 : Lies w lo1 hi1 v1 zs1) (hv2 : Lies w lo2 hi2 v2 zs2) (h : threeOk zs0 zs1 zs2 = true) : Calls Try.prog 24 #[v0, v1, v2] w (Gives (.int .i64 (faultV zs0 zs1 zs2)) w) := by
  have HV0 := hidH hv0
  have HV1 := hidH hv1
  have HV2 := hidH hv2
  have HT := hidH h
  obtain ⟨k0, k1, k2, l1, l2⟩ := threeOk_parts h
  have ⟨t1, t2⟩ := tableOk_len _ k0
  have HT3 := hidH (sThree_any v0 zs0 v1 zs1 v2 zs2 w lo0 hi0 lo1 hi1 lo2 hi2 hv0 hv1 hv2)
  rw [h] at HT3
  have HAB := hidH (fun W (hb : Below w.heap.size w W) => sWrongAt_any v0 zs0 v1 zs1 W _ _ _ _ (HV0.out.below hb) (HV1.out.below hb) l1 (by omega))
  have HAC := hidH (fun W (hb : Below w.heap.size w W) => sWrongAt_any v0 zs0 v2 zs2 W _ _ _ _ (HV0.out.below hb) (HV2.out.below hb) l2 (by omega))
  have HBC := hidH (fun W (hb : Below w.heap.size w W) => sWrongAt_any v1 zs1 v2 zs2 W _ _ _ _ (HV1.out.below hb) (HV2.out.below hb) (by omega) (by omega))
  have nab := wrong_neg zs0 zs1 l1
  have nac := wrong_neg zs0 zs2 l2
  have nbc := wrong_neg zs1 zs2 (by omega)
  have FC := fault_cases zs0 zs1 zs2
  clear hv0 hv1 hv2 k0 k1 k2 h t1 t2 l1 l2
  rcases FC with ⟨eab, eac, ebc, ev⟩ | ⟨eab, eac, ebc, ev⟩ | ⟨eab, eac, ebc, ev⟩ | ⟨eab, eac, ebc, ev⟩ | ⟨eab, eac, ebc, ev⟩
  · rw [ev]
    have mab := nab.2 eab
    have mac := nac.2 eac
    have mbc := nbc.2 ebc
    generalize nzI (wrongL zs0 zs1) = xab at *
    generalize nzI (wrongL zs0 zs2) = xac at *
    generalize nzI (wrongL zs1 zs2) = xbc at *
    clear ev eab eac ebc nab nac nbc
    go_enter Try.func24, Try.ntmps24
    go_wp2_with fail
    refine HT3.out.mono ?_; rintro e w2 ⟨rfl, hb⟩
    have B2 := hidH hb
    clear hb
    go_wp2_with fail
    refine (HAB.out _ B2.out).mono ?_; rintro e w3 ⟨rfl, q3, rfl⟩
    go_wp2_with fail
    refine (HAC.out _ (below_drewN B2.out _)).mono ?_; rintro e w4 ⟨rfl, q4, rfl⟩
    go_wp2_with fail
    refine (HBC.out _ (below_drewN B2.out _)).mono ?_; rintro e w5 ⟨rfl, q5, rfl⟩
    go_wp2_with fail
    go_ret
    exact ⟨rfl, below_drewN B2.out _⟩
  · rw [ev]
    have mab := fun h => eab (nab.1 h)
    have mac := fun h => eac (nac.1 h)
    have mbc := nbc.2 ebc
    generalize nzI (wrongL zs0 zs1) = xab at *
    generalize nzI (wrongL zs0 zs2) = xac at *
    generalize nzI (wrongL zs1 zs2) = xbc at *
    have pab : 0 ≤ xab := Int.not_lt.1 mab
    clear mab
    have pac : 0 ≤ xac := Int.not_lt.1 mac
    clear mac
    clear ev eab eac ebc nab nac nbc
    go_enter Try.func24, Try.ntmps24
    go_wp2_with fail
    refine HT3.out.mono ?_; rintro e w2 ⟨rfl, hb⟩
    have B2 := hidH hb
    clear hb
    go_wp2_with fail
    refine (HAB.out _ B2.out).mono ?_; rintro e w3 ⟨rfl, q3, rfl⟩
    go_wp2_with fail
    refine (HAC.out _ (below_drewN B2.out _)).mono ?_; rintro e w4 ⟨rfl, q4, rfl⟩
    go_wp2_with fail
    refine (HBC.out _ (below_drewN B2.out _)).mono ?_; rintro e w5 ⟨rfl, q5, rfl⟩
    go_wp2_with fail
    go_ret
    exact ⟨rfl, below_drewN B2.out _⟩
  · rw [ev]
    have mab := fun h => eab (nab.1 h)
    have mac := nac.2 eac
    have mbc := fun h => ebc (nbc.1 h)
    generalize nzI (wrongL zs0 zs1) = xab at *
    generalize nzI (wrongL zs0 zs2) = xac at *
    generalize nzI (wrongL zs1 zs2) = xbc at *
    have pab : 0 ≤ xab := Int.not_lt.1 mab
    clear mab
    have pbc : 0 ≤ xbc := Int.not_lt.1 mbc
    clear mbc
    clear ev eab eac ebc nab nac nbc
    go_enter Try.func24, Try.ntmps24
    go_wp2_with fail
    refine HT3.out.mono ?_; rintro e w2 ⟨rfl, hb⟩
    have B2 := hidH hb
    clear hb
    go_wp2_with fail
    refine (HAB.out _ B2.out).mono ?_; rintro e w3 ⟨rfl, q3, rfl⟩
    go_wp2_with fail
    refine (HAC.out _ (below_drewN B2.out _)).mono ?_; rintro e w4 ⟨rfl, q4, rfl⟩
    go_wp2_with fail
    refine (HBC.out _ (below_drewN B2.out _)).mono ?_; rintro e w5 ⟨rfl, q5, rfl⟩
    go_wp2_with fail
    go_ret
    exact ⟨rfl, below_drewN B2.out _⟩
  · rw [ev]
    have mab := nab.2 eab
    have mac := fun h => eac (nac.1 h)
    have mbc := fun h => ebc (nbc.1 h)
    generalize nzI (wrongL zs0 zs1) = xab at *
    generalize nzI (wrongL zs0 zs2) = xac at *
    generalize nzI (wrongL zs1 zs2) = xbc at *
    have pac : 0 ≤ xac := Int.not_lt.1 mac
    clear mac
    have pbc : 0 ≤ xbc := Int.not_lt.1 mbc
    clear mbc
    clear ev eab eac ebc nab nac nbc
    go_enter Try.func24, Try.ntmps24
    go_wp2_with fail
    refine HT3.out.mono ?_; rintro e w2 ⟨rfl, hb⟩
    have B2 := hidH hb
    clear hb
    go_wp2_with fail
    refine (HAB.out _ B2.out).mono ?_; rintro e w3 ⟨rfl, q3, rfl⟩
    go_wp2_with fail
    refine (HAC.out _ (below_drewN B2.out _)).mono ?_; rintro e w4 ⟨rfl, q4, rfl⟩
    go_wp2_with fail
    refine (HBC.out _ (below_drewN B2.out _)).mono ?_; rintro e w5 ⟨rfl, q5, rfl⟩
    go_wp2_with fail
    go_ret
    exact ⟨rfl, below_drewN B2.out _⟩
  · rw [ev]
    have mab := fun h => eab (nab.1 h)
    have mac := fun h => eac (nac.1 h)
    have mbc := fun h => ebc (nbc.1 h)
    generalize nzI (wrongL zs0 zs1) = xab at *
    generalize nzI (wrongL zs0 zs2) = xac at *
    generalize nzI (wrongL zs1 zs2) = xbc at *
    have pab : 0 ≤ xab := Int.not_lt.1 mab
    clear mab
    have pac : 0 ≤ xac := Int.not_lt.1 mac
    clear mac
    have pbc : 0 ≤ xbc := Int.not_lt.1 mbc
    clear mbc
    clear ev eab eac ebc nab nac nbc
    go_enter Try.func24, Try.ntmps24
    go_wp2_with fail
    refine HT3.out.mono ?_; rintro e w2 ⟨rfl, hb⟩
    have B2 := hidH hb
    clear hb
    go_wp2_with fail
    refine (HAB.out _ B2.out).mono ?_; rintro e w3 ⟨rfl, q3, rfl⟩
    go_wp2_with fail
    refine (HAC.out _ (below_drewN B2.out _)).mono ?_; rintro e w4 ⟨rfl, q4, rfl⟩
    go_wp2_with fail
    refine (HBC.out _ (below_drewN B2.out _)).mono ?_; rintro e w5 ⟨rfl, q5, rfl⟩
    go_wp2_with fail
    go_ret
    exact ⟨rfl, below_drewN B2.out _⟩
theorem sFaulty_any (v0 : Value) (zs0 : List Int) (v1 : Value) (zs1 : List Int) (v2 : Value) (zs2 : List Int) (w : World) (lo0 hi0 lo1 hi1 lo2 hi2 : Nat) (hv0 : Lies w lo0 hi0 v0 zs0) (hv1 : Lies w lo1 hi1 v1 zs1) (hv2 : Lies w lo2 hi2 v2 zs2) : Calls Try.prog 24 #[v0, v1, v2] w (Gives (.int .i64 (faultA zs0 zs1 zs2)) w) := by
  unfold faultA
  cases h : threeOk zs0 zs1 zs2
  · exact sFaulty_no v0 zs0 v1 zs1 v2 zs2 w lo0 hi0 lo1 hi1 lo2 hi2 hv0 hv1 hv2 h
  · exact sFaulty_yes v0 zs0 v1 zs1 v2 zs2 w lo0 hi0 lo1 hi1 lo2 hi2 hv0 hv1 hv2 h
end Go.Proofs.Ythinpmhoklehaaa
