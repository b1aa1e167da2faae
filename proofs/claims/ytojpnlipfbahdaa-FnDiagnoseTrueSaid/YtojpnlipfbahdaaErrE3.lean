/-
  DiagnoseSlip: the model, at every argument. No conditions but that slices fit in memory.
-/
import Derived.Test.YtojpnlipfbahdaaErrE2
namespace Go.Proofs.Ytojpnlipfbahdaa
set_option maxRecDepth 4000
open Go.RowKit
/-- The world may have drawn. -/
def Drew (v : Value) (w : World) (e : Ending) (w' : World) : Prop := e = .returned v ∧ ∃ q, w' = w.drewN q
set_option maxHeartbeats 800000 in
theorem sWrongAt_any (v0 : Value) (zs0 : List Int) (v1 : Value) (zs1 : List Int) (w : World) (lo0 hi0 lo1 hi1 : Nat) (hv0 : Lies w lo0 hi0 v0 zs0) (hv1 : Lies w lo1 hi1 v1 zs1) (hl : zs0.length = zs1.length) (h1 : 1 ≤ zs0.length) : Calls Try.prog 54 #[v0, v1] w (Drew (.int .i64 (nzI (wrongL zs0 zs1))) w) := by
  obtain ⟨b0, off0, cap0, rfl, hlc0, hcm0, _, _, _, hcell0⟩ := hv0.addr (by omega)
  obtain ⟨b1, off1, cap1, rfl, hlc1, hcm1, _, _, _, hcell1⟩ := hv1.addr (by omega)
  unfold maxLen at hcm0 hcm1
  have HCA := hidH hcell0
  have HCB := hidH hcell1
  have HL := hidH hl
  have HWL := hidH (wrongL_length zs0 zs1)
  clear hv0 hv1 hcell0 hcell1 hl
  go_enter Try.func54, Try.ntmps54
  go_wp2_with fail
  go_loopw [5] (fun i wr => ∃ k q : Nat, k ≤ zs0.length ∧ i = .int .i64 k ∧ (∀ (j : Nat) z, j < k → (wrongL zs0 zs1)[j]? = some z → z = 0) ∧ wr = w.drewN q) (fun i _ => zs0.length - (intOf i).toNat)
  case atStart => exact ⟨0, 0, Nat.zero_le _, rfl, fun j z h => absurd h (Nat.not_lt_zero _), rfl⟩
  case round =>
    obtain ⟨k, q, hk, rfl, hn, rfl⟩ := hrel
    have HN := hidH hn
    clear hn
    by_cases hlt : k < zs0.length
    · have hlt1 : k < zs1.length := by rw [← HL.out]; exact hlt
      obtain ⟨z, hz⟩ := get_lt zs0 k hlt
      obtain ⟨y, hy⟩ := get_lt zs1 k hlt1
      have hcz := HCA.out k z hz
      have hcy := HCB.out k y hy
      have HD := hidH (wrongL_get zs0 zs1 k z y hz hy)
      clear hz hy
      by_cases he : z = y
      · subst he
        have HZ0 := hidH (show ∀ n : Int, (wrongL zs0 zs1)[k]? = some n → n = 0 from fun n hn => by rw [HD.out] at hn; injection hn with hn; omega)
        go_wp2_with fail
        go_quiet (fail)
        go_wp2_with fail
        go_roundw
        case rel =>
          refine ⟨k + 1, _, by omega, by go_num, fun j n hj hn => ?_, by first | rfl | exact drewN_add _ _ _⟩
          by_cases e : j = k
          · subst e; exact HZ0.out n hn
          · exact HN.out j n (by omega) hn
        case measure => simp [intOf]; omega
      · have hzy : (z != y) = true := bne_iff_ne.2 he
        have hzy2 : (z == y) = false := beq_eq_false_iff_ne.2 he
        have HE := hidH (fnz_eq (wrongL zs0 zs1) k (by rw [HWL.out]; omega) HN.out (fun n hn => by rw [HD.out] at hn; injection hn with hn; omega))
        clear he
        go_wp2_with fail
        go_quiet (fail)
        go_wp2_with fail
        go_ret
        exact ⟨by rw [nzI, HE.out, HWL.out, if_pos hlt]; rfl, _, by first | rfl | exact drewN_add _ _ _⟩
    · obtain rfl : k = zs0.length := by omega
      have HE := hidH (fnz_eq (wrongL zs0 zs1) zs0.length (by rw [HWL.out]; exact Nat.le_refl _) HN.out (fun y hy => by rw [List.getElem?_eq_none (by rw [HWL.out]; exact Nat.le_refl _)] at hy; cases hy))
      go_wp2_with fail
      go_ret
      exact ⟨by rw [nzI, HE.out, HWL.out, if_neg (Nat.lt_irrefl _)]; rfl, q, rfl⟩
theorem sEffect_same (c t n : Nat) (a : Int) (hc : c ≤ 6) (ht : t ≤ 100) (hn : n ≤ 100) (ha : -100000 ≤ a ∧ a ≤ 100000) (w : World) : Calls Try.prog 46 #[.int .i64 c, .int .i64 t, .int .i64 a, .int .i64 n] w fun e w' => e = .returned (.int .i64 (effN c t a n)) ∧ w' = w :=
  (sEffect_any c t n a hc ht hn ha w).mono fun _ _ ⟨a, b⟩ => ⟨a, b.symm⟩
set_option maxHeartbeats 800000 in
theorem sSame_any (v0 : Value) (zs0 : List Int) (v1 : Value) (zs1 : List Int) (c t : Nat) (a : Int) (w : World) (lo0 hi0 lo1 hi1 : Nat) (hv0 : Lies w lo0 hi0 v0 zs0) (hv1 : Lies w lo1 hi1 v1 zs1) (ht0 : tableOk zs0 = true) (ht1 : tableOk zs1 = true) (hl : zs0.length = zs1.length) (hc : c ≤ 6) (ht : t ≤ 100) (ha : -100000 ≤ a ∧ a ≤ 100000) : Calls Try.prog 55 #[v0, v1, .int .i64 c, .int .i64 t, .int .i64 a] w (Drew (.bool (decide (∀ n, n < (wrongL zs0 zs1).length → (wrongL zs0 zs1).getD n 0 = effN c t a n))) w) := by
  have ⟨h1, h60⟩ := tableOk_len _ ht0
  obtain ⟨b0, off0, cap0, rfl, hlc0, hcm0, _, _, _, hcell0⟩ := hv0.addr (by omega)
  obtain ⟨b1, off1, cap1, rfl, hlc1, hcm1, _, _, _, hcell1⟩ := hv1.addr (by omega)
  unfold maxLen at hcm0 hcm1
  have HCA := hidH hcell0
  have HCB := hidH hcell1
  have HL := hidH hl
  have HT0 := hidH ht0
  have HT1 := hidH ht1
  have HWL := hidH (wrongL_length zs0 zs1)
  clear hv0 hv1 hcell0 hcell1 hl ht0 ht1
  go_enter Try.func55, Try.ntmps55
  go_wp2_with fail
  go_loopw [11] (fun i wr => ∃ k q : Nat, k ≤ zs0.length ∧ i = .int .i64 k ∧ (∀ n, n < k → (wrongL zs0 zs1).getD n 0 = effN c t a n) ∧ wr = w.drewN q) (fun i _ => zs0.length - (intOf i).toNat)
  case atStart => exact ⟨0, 0, Nat.zero_le _, rfl, fun j h => absurd h (Nat.not_lt_zero _), rfl⟩
  case round =>
    obtain ⟨k, q, hk, rfl, hn, rfl⟩ := hrel
    have HN := hidH hn
    clear hn
    by_cases hlt : k < zs0.length
    · have hlt1 : k < zs1.length := by rw [← HL.out]; exact hlt
      obtain ⟨z, hz⟩ := get_lt zs0 k hlt
      obtain ⟨y, hy⟩ := get_lt zs1 k hlt1
      have hcz := HCA.out k z hz
      have hcy := HCB.out k y hy
      have ⟨z1, z2⟩ := tab_bd HT0.out hz
      have ⟨y1, y2⟩ := tab_bd HT1.out hy
      have HD := hidH (wrongL_getD zs0 zs1 k z y hz hy)
      have HE := hidH (fun w => sEffect_same c t k a hc ht (by omega) ha w)
      have hwr : IntKind.i64.wrap (y - z) = y - z := IntWalk.i64_in _ (by omega)
      clear hz hy
      by_cases he : y - z = effN c t a k
      · have HDE := hidH (show ∀ n, n = k → (wrongL zs0 zs1).getD n 0 = effN c t a n from fun n e => by subst e; rw [HD.out]; exact he)
        have hb1 : (y - z != effN c t a k) = false := by rw [he]; exact bne_self_eq_false _
        generalize effN c t a k = x at *
        clear he
        go_wp2_with fail
        go_quiet ((go_at_call 46; exact (HE.out _).mono (fun _ _ h => ⟨h.1, _, h.2⟩)))
        go_wp2_with fail
        go_roundw
        case rel =>
          refine ⟨k + 1, _, by omega, by go_num, fun n hn => ?_, by first | rfl | exact drewN_add _ _ _⟩
          by_cases e : n = k
          · exact HDE.out n e
          · exact HN.out n (by omega)
        case measure => simp [intOf]; omega
      · have hb1 : (y - z != effN c t a k) = true := bne_iff_ne.2 he
        have hb2 : (y - z == effN c t a k) = false := beq_eq_false_iff_ne.2 he
        have HF := hidH (show decide (∀ n, n < (wrongL zs0 zs1).length → (wrongL zs0 zs1).getD n 0 = effN c t a n) = false from decide_eq_false fun h => he (by rw [← HD.out]; exact h k (by rw [HWL.out]; exact hlt)))
        generalize effN c t a k = x at *
        clear he
        go_wp2_with fail
        go_quiet ((go_at_call 46; exact (HE.out _).mono (fun _ _ h => ⟨h.1, _, h.2⟩)))
        go_wp2_with fail
        go_ret
        exact ⟨by rw [HF.out]; rfl, _, by first | rfl | exact drewN_add _ _ _⟩
    · obtain rfl : k = zs0.length := by omega
      have HF := hidH (show decide (∀ n, n < (wrongL zs0 zs1).length → (wrongL zs0 zs1).getD n 0 = effN c t a n) = true from decide_eq_true fun n hn => HN.out n (by rw [HWL.out] at hn; exact hn))
      go_wp2_with fail
      go_ret
      exact ⟨by rw [HF.out]; rfl, q, rfl⟩
def lensOk (zs ys : List Int) : Bool := decide (zs.length = ys.length)
theorem sDiag_no (v0 : Value) (zs0 : List Int) (v1 : Value) (zs1 : List Int) (w : World) (lo0 hi0 : Nat) (lo1 hi1 : Nat) (hv0 : Lies w lo0 hi0 v0 zs0) (hv1 : Lies w lo1 hi1 v1 zs1) (h : (((tableOk zs0) && ((tableOk zs1) && (lensOk zs0 zs1)))) = false) : Calls Try.prog 17 #[v0, v1] w (Gives4 0 0 0 false w) := by
  have HV0_0 := hidH hv0
  obtain ⟨a0, cap0, rfl, hlc0, hcm0, hnil0, hcell0⟩ := hv0
  clear hnil0 hcell0
  unfold maxLen at hcm0
  have HV1_0 := hidH hv1
  obtain ⟨a1, cap1, rfl, hlc1, hcm1, hnil1, hcell1⟩ := hv1
  clear hnil1 hcell1
  unfold maxLen at hcm1
  have HB0 := hidH (Below.refl w.heap.size w)
  cases hc0 : tableOk zs0
  · have HC0 := hidH hc0
    clear h hc0
    go_enter Try.func17, Try.ntmps17
    go_wp2_with fail
    refine (sTableValid_gives _ zs0 _ _ _ HV0_0.out).mono ?_; rintro e w1 ⟨rfl, hb⟩
    have HV0_1 := hidH (HV0_0.out.below hb)
    clear HV0_0
    have HV1_1 := hidH (HV1_0.out.below hb)
    clear HV1_0
    have HB1 := hidH (HB0.out.trans (hb.mono HB0.out.size))
    clear hb HB0
    rw [HC0.out]
    go_wp2_with fail
    ((try simp only [Exit.inBlock, Exit.then]); refine bodyPost_ret (results_tmp4 rfl _ _ _) rfl ?_)
    exact ⟨rfl, HB1.out⟩
  · rw [hc0, Bool.true_and] at h
    have HC0 := hidH hc0
    clear hc0
    cases hc1 : tableOk zs1
    · have HC1 := hidH hc1
      clear h hc1
      go_enter Try.func17, Try.ntmps17
      go_wp2_with fail
      refine (sTableValid_gives _ zs0 _ _ _ HV0_0.out).mono ?_; rintro e w1 ⟨rfl, hb⟩
      have HV0_1 := hidH (HV0_0.out.below hb)
      clear HV0_0
      have HV1_1 := hidH (HV1_0.out.below hb)
      clear HV1_0
      have HB1 := hidH (HB0.out.trans (hb.mono HB0.out.size))
      clear hb HB0
      rw [HC0.out]
      go_wp2_with fail
      refine (sTableValid_gives _ zs1 _ _ _ HV1_1.out).mono ?_; rintro e w2 ⟨rfl, hb⟩
      have HV0_2 := hidH (HV0_1.out.below hb)
      clear HV0_1
      have HV1_2 := hidH (HV1_1.out.below hb)
      clear HV1_1
      have HB2 := hidH (HB1.out.trans (hb.mono HB1.out.size))
      clear hb HB1
      rw [HC1.out]
      go_wp2_with fail
      ((try simp only [Exit.inBlock, Exit.then]); refine bodyPost_ret (results_tmp4 rfl _ _ _) rfl ?_)
      exact ⟨rfl, HB2.out⟩
    · rw [hc1, Bool.true_and] at h
      have HC1 := hidH hc1
      clear hc1
      · have HC2 := hidH h
        clear h
        have hcc := of_decide_eq_false HC2.out
        have hcf : ((zs0.length : Int) != (zs1.length : Int)) = true := by simp; omega
        have hcf2 : ((zs0.length : Int) == (zs1.length : Int)) = false := by simp; omega
        clear hcc
        go_enter Try.func17, Try.ntmps17
        go_wp2_with fail
        refine (sTableValid_gives _ zs0 _ _ _ HV0_0.out).mono ?_; rintro e w1 ⟨rfl, hb⟩
        have HV0_1 := hidH (HV0_0.out.below hb)
        clear HV0_0
        have HV1_1 := hidH (HV1_0.out.below hb)
        clear HV1_0
        have HB1 := hidH (HB0.out.trans (hb.mono HB0.out.size))
        clear hb HB0
        rw [HC0.out]
        go_wp2_with fail
        refine (sTableValid_gives _ zs1 _ _ _ HV1_1.out).mono ?_; rintro e w2 ⟨rfl, hb⟩
        have HV0_2 := hidH (HV0_1.out.below hb)
        clear HV0_1
        have HV1_2 := hidH (HV1_1.out.below hb)
        clear HV1_1
        have HB2 := hidH (HB1.out.trans (hb.mono HB1.out.size))
        clear hb HB1
        rw [HC1.out]
        go_wp2_with fail
        ((try simp only [Exit.inBlock, Exit.then]); refine bodyPost_ret (results_tmp4 rfl _ _ _) rfl ?_)
        exact ⟨rfl, HB2.out⟩
set_option maxHeartbeats 2000000 in
theorem sDiag_yes (v0 : Value) (zs0 : List Int) (v1 : Value) (zs1 : List Int) (w : World) (lo0 hi0 : Nat) (lo1 hi1 : Nat) (hv0 : Lies w lo0 hi0 v0 zs0) (hv1 : Lies w lo1 hi1 v1 zs1) (hc0 : (tableOk zs0) = true) (hc1 : (tableOk zs1) = true) (hc2 : (lensOk zs0 zs1) = true) : Calls Try.prog 17 #[v0, v1] w (Gives4 (diagC zs0 zs1) (diagT zs0 zs1) (diagM zs0 zs1) (diagB zs0 zs1) w) := by
  have HV0_0 := hidH hv0
  have HV1_0 := hidH hv1
  have HB0 := hidH (Below.refl w.heap.size w)
  have HC0 := hidH hc0
  have HC1 := hidH hc1
  have HC2 := hidH hc2
  clear hc0 hc1 hc2
  have ht2_0 := of_decide_eq_true HC2.out
  have HLL := hidH ht2_0
  have ⟨hn1, hn2⟩ := tableOk_len _ HC0.out
  obtain ⟨b0, off0, cap0, rfl, hlc0, hcm0, _, _, hbw0, hcell0⟩ := hv0.addr (by omega)
  obtain ⟨b1, off1, cap1, rfl, hlc1, hcm1, _, _, hbw1, hcell1⟩ := hv1.addr (by omega)
  unfold maxLen at hcm0 hcm1
  have HCA := hidH hcell0
  have HCB := hidH hcell1
  obtain ⟨D, hD⟩ : ∃ D, D = wrongL zs0 zs1 := ⟨_, rfl⟩
  have HDL := hidH (show D.length = zs0.length by rw [hD]; exact wrongL_length _ _)
  have HDD := hidH hD
  have hli : ((zs0.length : Int) != (zs1.length : Int)) = false := by rw [ht2_0]; exact bne_self_eq_false _
  have hli2 : ((zs0.length : Int) == (zs1.length : Int)) = true := by rw [ht2_0]; exact beq_self_eq_true _
  have HTB := hidH (show tabsOk zs0 zs1 = true by rw [tabsOk, HC0.out, HC1.out, decide_eq_true ht2_0]; rfl)
  clear hcell0 hcell1 hD ht2_0 hv0 hv1
  go_enter Try.func17, Try.ntmps17
  go_wp2_with fail
  refine (sTableValid_gives _ zs0 _ _ _ HV0_0.out).mono ?_; rintro e w1 ⟨rfl, hb⟩
  have HV0_1 := hidH (HV0_0.out.below hb)
  clear HV0_0
  have HV1_1 := hidH (HV1_0.out.below hb)
  clear HV1_0
  have HB1 := hidH (HB0.out.trans (hb.mono HB0.out.size))
  clear hb HB0
  rw [HC0.out]
  go_wp2_with fail
  refine (sTableValid_gives _ zs1 _ _ _ HV1_1.out).mono ?_; rintro e w2 ⟨rfl, hb⟩
  have HV0_2 := hidH (HV0_1.out.below hb)
  clear HV0_1
  have HV1_2 := hidH (HV1_1.out.below hb)
  clear HV1_1
  have HB2 := hidH (HB1.out.trans (hb.mono HB1.out.size))
  clear hb HB1
  rw [HC1.out]
  have HWA := hidH (sWrongAt_any _ zs0 _ zs1 _ _ _ _ _ HV0_2.out HV1_2.out HLL.out hn1)
  rw [← HDD.out] at HWA
  go_wp2_with fail
  refine HWA.out.mono ?_; rintro e wq ⟨rfl, q0, rfl⟩
  have HBW := hidH (below_drewN HB2.out q0)
  have HVA := hidH ((HV0_2.out.below (below_drewN (Below.refl _ _) q0)).top)
  have HVB := hidH ((HV1_2.out.below (below_drewN (Below.refl _ _) q0)).top)
  generalize w2.drewN q0 = wo at *
  clear HV0_2 HV1_2 HB2 HWA
  by_cases hfz : fnz D < zs0.length
  · have HNZ := hidH (show nzI D = (fnz D : Int) by rw [nzI, HDL.out, if_pos hfz])
    rw [HNZ.out]
    obtain ⟨f, hf⟩ : ∃ f, fnz D = f := ⟨_, rfl⟩
    obtain ⟨a, hA⟩ : ∃ a, D.getD f 0 = a := ⟨_, rfl⟩
    have HF := hidH hf
    have HA := hidH hA
    rw [hf] at hfz ⊢
    have hfl1 : f < zs1.length := by rw [← HLL.out]; exact hfz
    obtain ⟨z, hz⟩ := get_lt zs0 f hfz
    obtain ⟨y, hy⟩ := get_lt zs1 f hfl1
    have ⟨z1, z2⟩ := tab_bd HC0.out hz
    have ⟨y1, y2⟩ := tab_bd HC1.out hy
    have hay : a = y - z := by rw [← hA, HDD.out]; exact wrongL_getD zs0 zs1 f z y hz hy
    have hcz : wo.cell? ⟨b0, off0 + f, none⟩ = some (.int .i64 z) := by rw [HBW.out.cell (p := ⟨b0, off0 + f, none⟩) hbw0]; exact HCA.out f z hz
    have hcy : wo.cell? ⟨b1, off1 + f, none⟩ = some (.int .i64 y) := by rw [HBW.out.cell (p := ⟨b1, off1 + f, none⟩) hbw1]; exact HCB.out f y hy
    have HCZ := hidH hcz
    have HCY := hidH hcy
    have hyz : IntKind.i64.wrap (y - z) = a := by rw [hay]; exact IntWalk.i64_in _ (by omega)
    have hyz2 : y - z = a := hay.symm
    clear hf hA hz hy hcz hcy hay HCA HCB HNZ
    · cases hin : inB 100000 a
      · have HIN := hidH hin
        have HO := hidH (diag_none (zs := zs0) (ys := zs1) (by rw [diagO, ← HDD.out, HF.out, HA.out, hin, Bool.and_false, Bool.and_false]; rfl))
        clear hin
        rcases (show (f ≤ 6 ∧ min f 6 = f) ∨ (6 < f ∧ min f 6 = 6) by omega) with ⟨h6, hm⟩ | ⟨h6, hm⟩
        · clear hm
          go_wp2_with fail
          go_loopw [9] (fun c wx => ∃ k q : Nat, k ≤ f + 1 ∧ c = .int .i64 k ∧ wx = wo.drewN q) (fun c _ => f + 1 - (intOf c).toNat)
          case atStart => exact ⟨0, 0, Nat.zero_le _, rfl, rfl⟩
          case round =>
            obtain ⟨k, q, hk, rfl, rfl⟩ := hrel
            by_cases hlt : k < f + 1
            · have hkz : (k : Int) ≤ (f : Int) := by omega
              have hcy := HCY.out
              have hcz := HCZ.out
              obtain ⟨t, ht⟩ : ∃ t, t = f - k := ⟨_, rfl⟩
              have hfk : (f : Int) - (k : Int) = (t : Int) := by omega
              have HSLQ := hidH (show slipOk (k : Int) (t : Int) a = false by unfold slipOk; rw [HIN.out, Bool.and_false, Bool.and_false])
              clear ht
              go_wp2_with fail
              go_quiet (fail)
              go_wp2_with fail
              refine (sSlip_any _ _ _ _).mono ?_; rintro e w_ ⟨rfl, rfl⟩
              rw [HSLQ.out]
              go_wp2_with fail
              go_roundw
              case rel => exact ⟨k + 1, _, by omega, by go_num, by first | rfl | exact drewN_add _ _ _⟩
              case measure => simp [intOf]; omega
            · obtain rfl : k = f + 1 := by omega
              go_wp2_with fail
              ((try simp only [Exit.inBlock, Exit.then]); refine bodyPost_ret (results_tmp4 rfl _ _ _) rfl ?_)
              obtain ⟨e1, e2, e3, e4⟩ := HO.out
              rw [e1, e2, e3, e4]
              exact ⟨rfl, below_drewN HBW.out q⟩
        · clear hm
          go_wp2_with fail
          go_loopw [9] (fun c wx => ∃ k q : Nat, k ≤ 6 + 1 ∧ c = .int .i64 k ∧ wx = wo.drewN q) (fun c _ => 6 + 1 - (intOf c).toNat)
          case atStart => exact ⟨0, 0, Nat.zero_le _, rfl, rfl⟩
          case round =>
            obtain ⟨k, q, hk, rfl, rfl⟩ := hrel
            by_cases hlt : k < 6 + 1
            · have hkz : (k : Int) ≤ 6 := by omega
              have hcy := HCY.out
              have hcz := HCZ.out
              obtain ⟨t, ht⟩ : ∃ t, t = f - k := ⟨_, rfl⟩
              have hfk : (f : Int) - (k : Int) = (t : Int) := by omega
              have HSLQ := hidH (show slipOk (k : Int) (t : Int) a = false by unfold slipOk; rw [HIN.out, Bool.and_false, Bool.and_false])
              clear ht
              go_wp2_with fail
              go_quiet (fail)
              go_wp2_with fail
              refine (sSlip_any _ _ _ _).mono ?_; rintro e w_ ⟨rfl, rfl⟩
              rw [HSLQ.out]
              go_wp2_with fail
              go_roundw
              case rel => exact ⟨k + 1, _, by omega, by go_num, by first | rfl | exact drewN_add _ _ _⟩
              case measure => simp [intOf]; omega
            · obtain rfl : k = 6 + 1 := by omega
              go_wp2_with fail
              ((try simp only [Exit.inBlock, Exit.then]); refine bodyPost_ret (results_tmp4 rfl _ _ _) rfl ?_)
              obtain ⟨e1, e2, e3, e4⟩ := HO.out
              rw [e1, e2, e3, e4]
              exact ⟨rfl, below_drewN HBW.out q⟩
      · have HIN := hidH hin
        have ⟨a1, a2⟩ := of_decide_eq_true hin
        have HO := hidH (show diagO zs0 zs1 = seekC D f (min f 6 + 1) 0 by rw [diagO, ← HDD.out, HF.out, HA.out, hin, HTB.out, decide_eq_true hfz]; rfl)
        clear hin
        rcases (show (f ≤ 6 ∧ min f 6 = f) ∨ (6 < f ∧ min f 6 = 6) by omega) with ⟨h6, hm⟩ | ⟨h6, hm⟩
        · rw [hm] at HO
          clear hm
          go_wp2_with fail
          go_loopw [9] (fun c wx => ∃ k q : Nat, k ≤ f + 1 ∧ c = .int .i64 k ∧ seekC D f (f + 1 - k) k = seekC D f (f + 1) 0 ∧ wx = wo.drewN q) (fun c _ => f + 1 - (intOf c).toNat)
          case atStart => exact ⟨0, 0, Nat.zero_le _, rfl, rfl, rfl⟩
          case round =>
            obtain ⟨k, q, hk, rfl, hsk, rfl⟩ := hrel
            have HSK := hidH hsk
            clear hsk
            by_cases hlt : k < f + 1
            · have hkz : (k : Int) ≤ (f : Int) := by omega
              have hcy := HCY.out
              have hcz := HCZ.out
              obtain ⟨t, ht⟩ : ∃ t, t = f - k := ⟨_, rfl⟩
              have hfk : (f : Int) - (k : Int) = (t : Int) := by omega
              have HTF := hidH ht
              have HSQ := hidH (show seekC D f (f + 1 - k) k = if sameC D f k then some k else seekC D f (f + 1 - (k + 1)) (k + 1) by rw [show f + 1 - k = (f + 1 - (k + 1)) + 1 by omega]; rfl)
              have hlq : ∀ q, Lies (wo.drewN q) 0 (wo.drewN q).heap.size (.slice (some ⟨b0, off0, none⟩) zs0.length cap0) zs0 := fun q => HVA.out.below (below_drewN (Below.refl _ _) q)
              have hlr : ∀ q, Lies (wo.drewN q) 0 (wo.drewN q).heap.size (.slice (some ⟨b1, off1, none⟩) zs1.length cap1) zs1 := fun q => HVB.out.below (below_drewN (Below.refl _ _) q)
              have HSA := hidH (fun q => sSame_any _ zs0 _ zs1 k t a (wo.drewN q) _ _ _ _ (hlq q) (hlr q) HC0.out HC1.out HLL.out (by omega) (by omega) ⟨a1, a2⟩)
              have HSS := hidH (show sameC D f k = decide (∀ n, n < D.length → D.getD n 0 = effN k t a n) by unfold sameC; rw [HA.out, HTF.out])
              have HSLQ := hidH (show slipOk (k : Int) (t : Int) a = true by unfold slipOk colOk trnOk; rw [HIN.out, decide_eq_true (show 0 ≤ (k : Int) ∧ (k : Int) ≤ 6 by omega), decide_eq_true (show 0 ≤ (t : Int) ∧ (t : Int) ≤ 59 by omega)]; rfl)
              rw [← HDD.out] at HSA
              rw [← HSS.out] at HSA
              clear ht hlq hlr
              go_wp2_with fail
              go_quiet (fail)
              go_wp2_with fail
              refine (sSlip_any _ _ _ _).mono ?_; rintro e w_ ⟨rfl, rfl⟩
              rw [HSLQ.out]
              go_wp2_with fail
              refine (HSA.out _).mono ?_; rintro e w_ ⟨rfl, q2, rfl⟩
              cases hsm : sameC D f k
              · have HS := hidH hsm
                clear hsm
                go_wp2_with fail
                go_roundw
                case rel => exact ⟨k + 1, _, by omega, by go_num, by rw [← HSK.out, HSQ.out, HS.out]; rfl, by first | rfl | exact drewN_add _ _ _⟩
                case measure => simp [intOf]; omega
              · have HS := hidH hsm
                have HN := hidH (diag_some (zs := zs0) (ys := zs1) (c := k) (by rw [HO.out, ← HSK.out, HSQ.out, HS.out]; rfl))
                clear hsm
                go_wp2_with fail
                ((try simp only [Exit.inBlock, Exit.then]); refine bodyPost_ret (results_tmp4 rfl _ _ _) rfl ?_)
                obtain ⟨e1, e2, e3, e4⟩ := HN.out
                rw [e1, e2, e3, e4, ← HDD.out, HF.out, HA.out, hfk]
                exact ⟨rfl, by first | exact below_drewN HBW.out _ | (rw [drewN_add]; exact below_drewN HBW.out _)⟩
            · obtain rfl : k = f + 1 := by omega
              have HN := hidH (diag_none (zs := zs0) (ys := zs1) (by rw [HO.out, ← HSK.out, Nat.sub_self]; rfl))
              go_wp2_with fail
              ((try simp only [Exit.inBlock, Exit.then]); refine bodyPost_ret (results_tmp4 rfl _ _ _) rfl ?_)
              obtain ⟨e1, e2, e3, e4⟩ := HN.out
              rw [e1, e2, e3, e4]
              exact ⟨rfl, below_drewN HBW.out q⟩
        · rw [hm] at HO
          clear hm
          go_wp2_with fail
          go_loopw [9] (fun c wx => ∃ k q : Nat, k ≤ 6 + 1 ∧ c = .int .i64 k ∧ seekC D f (6 + 1 - k) k = seekC D f (6 + 1) 0 ∧ wx = wo.drewN q) (fun c _ => 6 + 1 - (intOf c).toNat)
          case atStart => exact ⟨0, 0, Nat.zero_le _, rfl, rfl, rfl⟩
          case round =>
            obtain ⟨k, q, hk, rfl, hsk, rfl⟩ := hrel
            have HSK := hidH hsk
            clear hsk
            by_cases hlt : k < 6 + 1
            · have hkz : (k : Int) ≤ 6 := by omega
              have hcy := HCY.out
              have hcz := HCZ.out
              obtain ⟨t, ht⟩ : ∃ t, t = f - k := ⟨_, rfl⟩
              have hfk : (f : Int) - (k : Int) = (t : Int) := by omega
              have HTF := hidH ht
              have HSQ := hidH (show seekC D f (6 + 1 - k) k = if sameC D f k then some k else seekC D f (6 + 1 - (k + 1)) (k + 1) by rw [show 6 + 1 - k = (6 + 1 - (k + 1)) + 1 by omega]; rfl)
              have hlq : ∀ q, Lies (wo.drewN q) 0 (wo.drewN q).heap.size (.slice (some ⟨b0, off0, none⟩) zs0.length cap0) zs0 := fun q => HVA.out.below (below_drewN (Below.refl _ _) q)
              have hlr : ∀ q, Lies (wo.drewN q) 0 (wo.drewN q).heap.size (.slice (some ⟨b1, off1, none⟩) zs1.length cap1) zs1 := fun q => HVB.out.below (below_drewN (Below.refl _ _) q)
              have HSA := hidH (fun q => sSame_any _ zs0 _ zs1 k t a (wo.drewN q) _ _ _ _ (hlq q) (hlr q) HC0.out HC1.out HLL.out (by omega) (by omega) ⟨a1, a2⟩)
              have HSS := hidH (show sameC D f k = decide (∀ n, n < D.length → D.getD n 0 = effN k t a n) by unfold sameC; rw [HA.out, HTF.out])
              have HSLQ := hidH (show slipOk (k : Int) (t : Int) a = true by unfold slipOk colOk trnOk; rw [HIN.out, decide_eq_true (show 0 ≤ (k : Int) ∧ (k : Int) ≤ 6 by omega), decide_eq_true (show 0 ≤ (t : Int) ∧ (t : Int) ≤ 59 by omega)]; rfl)
              rw [← HDD.out] at HSA
              rw [← HSS.out] at HSA
              clear ht hlq hlr
              go_wp2_with fail
              go_quiet (fail)
              go_wp2_with fail
              refine (sSlip_any _ _ _ _).mono ?_; rintro e w_ ⟨rfl, rfl⟩
              rw [HSLQ.out]
              go_wp2_with fail
              refine (HSA.out _).mono ?_; rintro e w_ ⟨rfl, q2, rfl⟩
              cases hsm : sameC D f k
              · have HS := hidH hsm
                clear hsm
                go_wp2_with fail
                go_roundw
                case rel => exact ⟨k + 1, _, by omega, by go_num, by rw [← HSK.out, HSQ.out, HS.out]; rfl, by first | rfl | exact drewN_add _ _ _⟩
                case measure => simp [intOf]; omega
              · have HS := hidH hsm
                have HN := hidH (diag_some (zs := zs0) (ys := zs1) (c := k) (by rw [HO.out, ← HSK.out, HSQ.out, HS.out]; rfl))
                clear hsm
                go_wp2_with fail
                ((try simp only [Exit.inBlock, Exit.then]); refine bodyPost_ret (results_tmp4 rfl _ _ _) rfl ?_)
                obtain ⟨e1, e2, e3, e4⟩ := HN.out
                rw [e1, e2, e3, e4, ← HDD.out, HF.out, HA.out, hfk]
                exact ⟨rfl, by first | exact below_drewN HBW.out _ | (rw [drewN_add]; exact below_drewN HBW.out _)⟩
            · obtain rfl : k = 6 + 1 := by omega
              have HN := hidH (diag_none (zs := zs0) (ys := zs1) (by rw [HO.out, ← HSK.out, Nat.sub_self]; rfl))
              go_wp2_with fail
              ((try simp only [Exit.inBlock, Exit.then]); refine bodyPost_ret (results_tmp4 rfl _ _ _) rfl ?_)
              obtain ⟨e1, e2, e3, e4⟩ := HN.out
              rw [e1, e2, e3, e4]
              exact ⟨rfl, below_drewN HBW.out q⟩
  · have HNZ := hidH (show nzI D = -1 by rw [nzI, HDL.out, if_neg hfz])
    have HO := hidH (diag_none (zs := zs0) (ys := zs1) (by rw [diagO, ← HDD.out, decide_eq_false hfz, Bool.false_and, Bool.and_false]; rfl))
    rw [HNZ.out]
    go_wp2_with fail
    go_loopw [9] (fun c wx => c = .int .i64 0 ∧ wx = wo) (fun _ _ => 0)
    case atStart => exact ⟨rfl, rfl⟩
    case round =>
      obtain ⟨rfl, rfl⟩ := hrel
      go_wp2_with fail
      ((try simp only [Exit.inBlock, Exit.then]); refine bodyPost_ret (results_tmp4 rfl _ _ _) rfl ?_)
      obtain ⟨e1, e2, e3, e4⟩ := HO.out
      rw [e1, e2, e3, e4]
      exact ⟨rfl, HBW.out⟩
theorem sDiag_any (v0 : Value) (zs0 : List Int) (v1 : Value) (zs1 : List Int) (w : World) (lo0 hi0 lo1 hi1 : Nat) (hv0 : Lies w lo0 hi0 v0 zs0) (hv1 : Lies w lo1 hi1 v1 zs1) : Calls Try.prog 17 #[v0, v1] w (Gives4 (diagC zs0 zs1) (diagT zs0 zs1) (diagM zs0 zs1) (diagB zs0 zs1) w) := by
  cases h : (tableOk zs0 && (tableOk zs1 && lensOk zs0 zs1))
  · obtain ⟨e1, e2, e3, e4⟩ := diag_none (zs := zs0) (ys := zs1) (by rw [diagO, show tabsOk zs0 zs1 = false from h]; rfl)
    rw [e1, e2, e3, e4]
    exact sDiag_no v0 zs0 v1 zs1 w lo0 hi0 lo1 hi1 hv0 hv1 h
  · have h' := h
    simp only [Bool.and_eq_true] at h'
    obtain ⟨h0, h1, h2⟩ := h'
    exact sDiag_yes v0 zs0 v1 zs1 w lo0 hi0 lo1 hi1 hv0 hv1 h0 h1 h2
end Go.Proofs.Ytojpnlipfbahdaa
