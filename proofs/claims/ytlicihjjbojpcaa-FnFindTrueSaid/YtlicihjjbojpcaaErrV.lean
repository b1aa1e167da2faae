/-
  FindError: the program, at every argument. No conditions but that slices fit in memory.
-/
import Derived.Test.YtlicihjjbojpcaaErrU
import Derived.Test.YtlicihjjbojpcaaErrJ
import Derived.Test.YtlicihjjbojpcaaErrR
namespace Go.Proofs.Ytlicihjjbojpcaa
set_option maxRecDepth 4000
open Go.RowKit Go.Maps
theorem nz_of (row : List Int) (h : zeroOk row = false) : fnz row < row.length := by
  apply Classical.byContradiction
  intro hn
  have he : fnz row = row.length := by have := fnz_le row; omega
  have : zeroOk row = true := by
    unfold zeroOk
    simp
    intro x hx
    obtain ⟨j, hj⟩ := List.mem_iff_getElem?.1 hx
    exact fnz_low row j x (by have := (List.getElem?_eq_some_iff.1 hj).1; omega) hj
  rw [this] at h; cases h
theorem expl_of (row : List Int) (o k : Nat) (hz : zeroOk row = false) (h : row = errL o k (guessN row o k) row.length) : explB row o k = true := by
  unfold explB
  rw [decide_eq_true h, Bool.and_true]
  refine decide_eq_true (fun h0 => ?_)
  rw [h0] at h
  have : zeroOk row = true := by
    unfold zeroOk
    simp
    intro x hx
    obtain ⟨j, hj⟩ := List.mem_iff_getElem?.1 hx
    have hl := (List.getElem?_eq_some_iff.1 hj).1
    rw [h, errL_get o k 0 row.length j hl] at hj
    simpa using hj.symm
  rw [this] at hz; cases hz
theorem expl_not (row : List Int) (o k : Nat) (h : row ≠ errL o k (guessN row o k) row.length) : explB row o k = false := by
  unfold explB
  rw [decide_eq_false h, Bool.and_false]
theorem zeroInt (w : World) : (zeroValue 3).run Try.prog w = .ok (.int .i64 0) w := by kernel_rfl
theorem find_no (v0 : Value) (zs0 : List Int) (n1 : Int) (w : World) (lo0 hi0 : Nat) (hv0 : Lies w lo0 hi0 v0 zs0) (h : (((tableOk zs0) && ((degOk n1) && (longOk zs0 n1)))) = false) : Calls Try.prog 10 #[v0, .int .i64 n1] w (Gives3 0 0 3 w) := by
  have HV0_0 := hidH hv0
  obtain ⟨a0, cap0, rfl, hlc0, hcm0, hnil0, hcell0⟩ := hv0
  clear hnil0 hcell0
  unfold maxLen at hcm0
  have HB0 := hidH (Below.refl w.heap.size w)
  cases hc0 : tableOk zs0
  · have HC0 := hidH hc0
    clear h hc0
    go_enter Try.func10, Try.ntmps10
    go_wp2_with fail
    refine (tableValid_any _ zs0 _ _ _ HV0_0.out).mono ?_; rintro e w1 ⟨rfl, hb⟩
    have HV0_1 := hidH (HV0_0.out.below hb)
    clear HV0_0
    have HB1 := hidH (HB0.out.trans (hb.mono HB0.out.size))
    clear hb HB0
    rw [HC0.out]
    go_wp2_with fail
    ((try simp only [Exit.inBlock, Exit.then]); refine bodyPost_ret (results_tmp3 rfl _ _ _) rfl ?_)
    exact ⟨rfl, HB1.out⟩
  · rw [hc0, Bool.true_and] at h
    have HC0 := hidH hc0
    clear hc0
    cases hc1 : degOk n1
    · have HC1 := hidH hc1
      clear h hc1
      go_enter Try.func10, Try.ntmps10
      go_wp2_with fail
      refine (tableValid_any _ zs0 _ _ _ HV0_0.out).mono ?_; rintro e w1 ⟨rfl, hb⟩
      have HV0_1 := hidH (HV0_0.out.below hb)
      clear HV0_0
      have HB1 := hidH (HB0.out.trans (hb.mono HB0.out.size))
      clear hb HB0
      rw [HC0.out]
      go_wp2_with fail
      refine (degValid_any n1 _).mono ?_; rintro e w_ ⟨rfl, rfl⟩
      rw [HC1.out]
      go_wp2_with fail
      ((try simp only [Exit.inBlock, Exit.then]); refine bodyPost_ret (results_tmp3 rfl _ _ _) rfl ?_)
      exact ⟨rfl, HB1.out⟩
    · rw [hc1, Bool.true_and] at h
      have HC1 := hidH hc1
      clear hc1
      have ⟨hd1, hd2⟩ := of_decide_eq_true HC1.out
      · have HC2 := hidH h
        clear h
        have hcc := of_decide_eq_false HC2.out
        have hcf : (zs0.length : Int) < n1 + 3 := by omega
        clear hcc
        go_enter Try.func10, Try.ntmps10
        go_wp2_with fail
        refine (tableValid_any _ zs0 _ _ _ HV0_0.out).mono ?_; rintro e w1 ⟨rfl, hb⟩
        have HV0_1 := hidH (HV0_0.out.below hb)
        clear HV0_0
        have HB1 := hidH (HB0.out.trans (hb.mono HB0.out.size))
        clear hb HB0
        rw [HC0.out]
        go_wp2_with fail
        refine (degValid_any n1 _).mono ?_; rintro e w_ ⟨rfl, rfl⟩
        rw [HC1.out]
        go_wp2_with fail
        ((try simp only [Exit.inBlock, Exit.then]); refine bodyPost_ret (results_tmp3 rfl _ _ _) rfl ?_)
        exact ⟨rfl, HB1.out⟩
set_option maxHeartbeats 1600000 in
theorem find_yes (v0 : Value) (zs0 : List Int) (n1 : Int) (w : World) (lo0 hi0 : Nat) (hv0 : Lies w lo0 hi0 v0 zs0) (hc0 : (tableOk zs0) = true) (hc1 : (degOk n1) = true) (hc2 : (longOk zs0 n1) = true) : Calls Try.prog 10 #[v0, .int .i64 n1] w (Gives3 (findA (findRow zs0 n1) (n1.toNat + 1)) (findM (findRow zs0 n1) (n1.toNat + 1)) (findK (findRow zs0 n1) (n1.toNat + 1)) w) := by
  have HV0_0 := hidH hv0
  obtain ⟨a0, cap0, rfl, hlc0, hcm0, hnil0, hcell0⟩ := hv0
  clear hnil0 hcell0
  unfold maxLen at hcm0
  have HB0 := hidH (Below.refl w.heap.size w)
  have HC0 := hidH hc0
  have HC1 := hidH hc1
  have HC2 := hidH hc2
  clear hc0 hc1 hc2
  have ⟨hd1, hd2⟩ := of_decide_eq_true HC1.out
  have ht2_0 := of_decide_eq_true HC2.out
  have ⟨tl1, tl2⟩ := tableOk_len _ HC0.out
  go_enter Try.func10, Try.ntmps10
  go_wp2_with fail
  refine (tableValid_any _ zs0 _ _ _ HV0_0.out).mono ?_; rintro e w1 ⟨rfl, hb⟩
  have HV0_1 := hidH (HV0_0.out.below hb)
  clear HV0_0
  have HB1 := hidH (HB0.out.trans (hb.mono HB0.out.size))
  clear hb HB0
  rw [HC0.out]
  go_wp2_with fail
  refine (degValid_any n1 _).mono ?_; rintro e w_ ⟨rfl, rfl⟩
  rw [HC1.out]
  have HK := hidH (taken_any (.slice a0 zs0.length cap0) zs0 (n1.toNat + 1) w1 _ _ HV0_1.out (by omega) (by omega))
  have HOC := hidH (show ((n1.toNat + 1 : Nat) : Int) = n1 + 1 by omega)
  rw [HOC.out] at HK
  go_wp2_with fail
  refine HK.out.mono ?_; rintro e wy ⟨rv, rfl, hlr, hb⟩
  have HBZ := hidH (HB1.out.trans (hb.mono HB1.out.size))
  have HRL := hidH (show (findRow zs0 n1).length = zs0.length - (n1.toNat + 1) from difN_length _ _)
  have HRB := hidH (findRow_bd zs0 n1 HC0.out (by omega))
  change Lies wy 0 wy.heap.size rv (findRow zs0 n1) at hlr
  have HVR := hidH hlr
  have HO1 := hidH (show n1.toNat + 1 ≤ 7 ∧ 1 ≤ n1.toNat + 1 by omega)
  clear hb hlr HK
  generalize findRow zs0 n1 = row at *
  generalize ho : n1.toNat + 1 = o at *
  clear ho
  go_wp2_with fail
  refine (allZero_any rv row _ _ _ HVR.out).mono ?_; rintro e wx ⟨rfl, rfl⟩
  cases hz : zeroOk row
  · have HZ := hidH hz
    have HNZ := hidH (nz_of row hz)
    clear hz
    have HL3 := hidH (show zs0.length = row.length + o ∧ 2 ≤ row.length ∧ row.length ≤ 60 by have := HRL.out; have := HOC.out; omega)
    have HEN := hidH (fun w => entries_any zs0.length o row.length HL3.out.1 HO1.out.1 HL3.out.2.1 (by omega) w)
    have HSY := hidH (fun w lo hi h => synd_any rv row w lo hi h HL3.out.2.2 HL3.out.2.1 HNZ.out HRB.out)
    have HSI := hidH (syn_in row HL3.out.2.2 HRB.out)
    have HKS := hidH (keyS_eq (synL row) HSI.out)
    have HUI := hidH (fun k => unit_in o k row.length HO1.out.1 HL3.out.2.2)
    rw [HOC.out] at HEN
    clear HNZ
    by_cases hex : ∃ k, k < zs0.length ∧ unitS o k row.length = synL row
    · obtain ⟨k, hk, hu⟩ := hex
      have HU := hidH hu
      have hent := ent_hit o row.length k HO1.out.2 HO1.out.1 HL3.out.2.1 (.lit (.int .i64 0)) zs0.length (by rw [← HL3.out.1]; exact Nat.le_refl _) (fun j _ => HUI.out j) hk
      rw [hu] at hent
      have HH1 := hidH hent.1
      have HH2 := hidH hent.2
      have ⟨l1, l2, l3⟩ := HL3.out
      have HAM := hidH (fun w lo hi h => amount_any rv row o k w lo hi h HO1.out.1 (by omega) l3 (by omega) HRB.out)
      have hgb := (guess_bd row o k 1000000000000 HRB.out).1
      have HER := hidH (fun w => errRow_any zs0.length o k row.length (guessN row o k) l1 HO1.out.1 (by omega) l3 (by omega) (by omega) w)
      rw [HOC.out] at HAM HER
      have HEQ := hidH (fun v1 w lo0 hi0 lo1 hi1 hv0 hv1 => equal4_any rv row v1 (errL o k (guessN row o k) row.length) w lo0 hi0 lo1 hi1 hv0 hv1 (by rw [errL_length]) (by omega) (by omega))
      clear hu hent hgb l1 l2 l3
      by_cases he : row = errL o k (guessN row o k) row.length
      · have HFO := hidH (findO_at row o k HO1.out.2 HO1.out.1 (by rw [← HL3.out.1]; exact hk) HL3.out.2.1 (expl_of row o k HZ.out he))
        rw [decide_eq_true he] at HEQ
        clear he HRB HUI
        go_wp2_with fail
        refine (HEN.out _).mono ?_; rintro e w3 ⟨mb, rfl, hown, hb⟩
        have HO3 := hidH hown
        have HV3 := hidH (HVR.out.below hb)
        have HB3 := hidH (HBZ.out.trans (hb.mono HBZ.out.size))
        clear hown hb
        go_wp2_with fail
        refine (HSY.out _ _ _ HV3.out).mono ?_; rintro e w4 ⟨rfl, hb⟩
        have HO4 := hidH (HO3.out.kept (row := none) (grown_below hb) (by simp))
        have HV4 := hidH (HV3.out.below hb)
        have HB4 := hidH (HB3.out.trans (hb.mono HB3.out.size))
        clear hb HO3 HV3 HB3
        go_wp2_with (first | (at_lookup; refine wpList_lookup_own_ok_int _ rfl _ _ 62 rfl 65 3 .i64 synLaw Try.underlying62 Try.underlying3 (zeroInt _) mb zs0.length _ rfl HO4.out _ _ rfl HKS.out ?_; intro c hat hwc; rw [HH1.out]; obtain rfl : c = (k : Int) := (by have h := HH2.out.symm.trans hat; simpa using h.symm); clear hat hwc) | fail)
        refine (HAM.out _ _ _ HV4.out).mono ?_; rintro e w5 ⟨rfl, hb⟩
        have HV5 := hidH (HV4.out.below hb)
        have HB5 := hidH (HB4.out.trans (hb.mono HB4.out.size))
        clear hb HO4 HV4 HB4
        go_wp2_with fail
        refine (HER.out _).mono ?_; rintro e w6 ⟨u, rfl, hr, hb⟩
        have HV6 := hidH (HV5.out.below hb)
        have HR6 := hidH hr
        have HB6 := hidH (HB5.out.trans (hb.mono HB5.out.size))
        clear hb hr HV5 HB5
        go_wp2_with fail
        refine (HEQ.out u _ _ _ _ _ HV6.out HR6.out.lies).mono ?_; rintro e w7 ⟨rfl, q, rfl⟩
        go_wp2_with fail
        ((try simp only [Exit.inBlock, Exit.then]); refine bodyPost_ret (results_tmp3 rfl _ _ _) rfl ?_)
        obtain ⟨e1, e2, e3⟩ := find_hit HZ.out HFO.out
        rw [e1, e2, e3]
        exact ⟨rfl, below_drewN HB6.out _⟩
      · have HFO := hidH (findO_not row o k HO1.out.1 HO1.out.2 (by rw [← HL3.out.1]; exact hk) HL3.out.2.1 HU.out (expl_not row o k he))
        rw [decide_eq_false he] at HEQ
        clear he HRB HUI
        go_wp2_with fail
        refine (HEN.out _).mono ?_; rintro e w3 ⟨mb, rfl, hown, hb⟩
        have HO3 := hidH hown
        have HV3 := hidH (HVR.out.below hb)
        have HB3 := hidH (HBZ.out.trans (hb.mono HBZ.out.size))
        clear hown hb
        go_wp2_with fail
        refine (HSY.out _ _ _ HV3.out).mono ?_; rintro e w4 ⟨rfl, hb⟩
        have HO4 := hidH (HO3.out.kept (row := none) (grown_below hb) (by simp))
        have HV4 := hidH (HV3.out.below hb)
        have HB4 := hidH (HB3.out.trans (hb.mono HB3.out.size))
        clear hb HO3 HV3 HB3
        go_wp2_with (first | (at_lookup; refine wpList_lookup_own_ok_int _ rfl _ _ 62 rfl 65 3 .i64 synLaw Try.underlying62 Try.underlying3 (zeroInt _) mb zs0.length _ rfl HO4.out _ _ rfl HKS.out ?_; intro c hat hwc; rw [HH1.out]; obtain rfl : c = (k : Int) := (by have h := HH2.out.symm.trans hat; simpa using h.symm); clear hat hwc) | fail)
        refine (HAM.out _ _ _ HV4.out).mono ?_; rintro e w5 ⟨rfl, hb⟩
        have HV5 := hidH (HV4.out.below hb)
        have HB5 := hidH (HB4.out.trans (hb.mono HB4.out.size))
        clear hb HO4 HV4 HB4
        go_wp2_with fail
        refine (HER.out _).mono ?_; rintro e w6 ⟨u, rfl, hr, hb⟩
        have HV6 := hidH (HV5.out.below hb)
        have HR6 := hidH hr
        have HB6 := hidH (HB5.out.trans (hb.mono HB5.out.size))
        clear hb hr HV5 HB5
        go_wp2_with fail
        refine (HEQ.out u _ _ _ _ _ HV6.out HR6.out.lies).mono ?_; rintro e w7 ⟨rfl, q, rfl⟩
        go_wp2_with fail
        ((try simp only [Exit.inBlock, Exit.then]); refine bodyPost_ret (results_tmp3 rfl _ _ _) rfl ?_)
        obtain ⟨e1, e2, e3⟩ := find_miss HZ.out HFO.out
        rw [e1, e2, e3]
        exact ⟨rfl, below_drewN HB6.out _⟩
    · have hne : ∀ k, k < zs0.length → unitS o k row.length ≠ synL row := fun k hk h => hex ⟨k, hk, h⟩
      have HH1 := hidH (ent_miss o row.length (synL row) HSI.out zs0.length (fun j _ => HUI.out j) hne)
      have HFO := hidH (findO_miss row o HO1.out.1 HL3.out.2.1 (by rw [← HL3.out.1]; exact hne))
      clear hne hex HRB HUI
      go_wp2_with fail
      refine (HEN.out _).mono ?_; rintro e w3 ⟨mb, rfl, hown, hb⟩
      have HO3 := hidH hown
      have HV3 := hidH (HVR.out.below hb)
      have HB3 := hidH (HBZ.out.trans (hb.mono HBZ.out.size))
      clear hown hb
      go_wp2_with fail
      refine (HSY.out _ _ _ HV3.out).mono ?_; rintro e w4 ⟨rfl, hb⟩
      have HO4 := hidH (HO3.out.kept (row := none) (grown_below hb) (by simp))
      have HB4 := hidH (HB3.out.trans (hb.mono HB3.out.size))
      clear hb HO3
      go_wp2_with (first | (at_lookup; refine wpList_lookup_own_ok_int _ rfl _ _ 62 rfl 65 3 .i64 synLaw Try.underlying62 Try.underlying3 (zeroInt _) mb zs0.length _ rfl HO4.out _ _ rfl HKS.out ?_; intro c hat hwc; rw [HH1.out]) | fail)
      ((try simp only [Exit.inBlock, Exit.then]); refine bodyPost_ret (results_tmp3 rfl _ _ _) rfl ?_)
      obtain ⟨e1, e2, e3⟩ := find_miss HZ.out HFO.out
      rw [e1, e2, e3]
      exact ⟨rfl, HB4.out⟩
  · have HZ := hidH hz
    clear hz
    go_wp2_with fail
    ((try simp only [Exit.inBlock, Exit.then]); refine bodyPost_ret (results_tmp3 rfl _ _ _) rfl ?_)
    obtain ⟨e1, e2, e3⟩ := find_zero (row := row) (o := o) HZ.out
    rw [e1, e2, e3]
    exact ⟨rfl, HBZ.out⟩
theorem find_any (v0 : Value) (zs0 : List Int) (n1 : Int) (w : World) (lo0 hi0 : Nat) (hv0 : Lies w lo0 hi0 v0 zs0) : Calls Try.prog 10 #[v0, .int .i64 n1] w (Gives3 (findAt zs0 n1) (findAm zs0 n1) (findKd zs0 n1) w) := by
  unfold findAt findAm findKd
  cases h : findOk zs0 n1
  · exact find_no v0 zs0 n1 w lo0 hi0 hv0 h
  · have h2 := h
    unfold findOk at h2
    rw [Bool.and_eq_true, Bool.and_eq_true] at h2
    exact find_yes v0 zs0 n1 w lo0 hi0 hv0 h2.1 h2.2.1 h2.2.2
end Go.Proofs.Ytlicihjjbojpcaa
