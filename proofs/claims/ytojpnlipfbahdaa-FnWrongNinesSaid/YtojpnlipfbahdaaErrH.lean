/-
  WrongNines: the program and the model, at every argument. No conditions but that slices fit in memory.
-/
import Derived.Test.YtojpnlipfbahdaaErrDm
namespace Go.Proofs.Ytojpnlipfbahdaa
set_option maxRecDepth 4000
open Go.RowKit
theorem diff_same {R ns : List Int} {k : Nat} {r m : Int} (hr : R[k]? = some r) (hm : ns[k]? = some m) (h : r = m) : diffTo R ns (k + 1) = diffTo R ns k := by
  rw [diffTo, getD_of hr, getD_of hm, if_pos h]
theorem diff_other {R ns : List Int} {k : Nat} {r m : Int} (hr : R[k]? = some r) (hm : ns[k]? = some m) (h : r ≠ m) : diffTo R ns (k + 1) = diffTo R ns k ++ [(k : Int)] := by
  rw [diffTo, getD_of hr, getD_of hm, if_neg h]
theorem ints_diff {R ns : List Int} {k : Nat} {r m : Int} (hr : R[k]? = some r) (hm : ns[k]? = some m) (h : r ≠ m) : ints (diffTo R ns (k + 1)) = ints (diffTo R ns k) ++ [.int .i64 k] := by
  rw [diff_other hr hm h, ints_append]; rfl
set_option maxHeartbeats 1000000 in
theorem wrong_any (v0 : Value) (zs0 : List Int) (v1 : Value) (zs1 : List Int) (w : World) (lo0 hi0 lo1 hi1 : Nat) (hv0 : Lies w lo0 hi0 v0 zs0) (hv1 : Lies w lo1 hi1 v1 zs1) : Calls Try.prog 24 #[v0, v1] w (NewRow (wrongA zs0 zs1) w) := by
  have HK := hidH (nines_any v0 zs0 w lo0 hi0 hv0)
  have HV1 := hidH hv1
  obtain ⟨a1, cap1, rfl, hlc1, hcm1, hnil1, hcell1⟩ := hv1
  unfold maxLen at hcm1
  have HCB := hidH hcell1
  have hRl := restA_len 9 zs0
  obtain ⟨R, hR⟩ : ∃ R, R = restA 9 zs0 := ⟨_, rfl⟩
  rw [← hR] at HK hRl
  have HRR := hidH hR
  obtain ⟨i0, hi0', hz0, hz1, hz2⟩ := info_parts infoInt
  clear hv0 hnil1 hcell1 hR
  go_enter Try.func24, Try.ntmps24
  go_wp2_with fail
  refine HK.out.mono ?_; rintro e w1 ⟨v2, rfl, hr, hb⟩
  have HB1 := hidH hb
  have HRW := hidH hr
  obtain ⟨a2, cap2, rfl, hlc2, hcm2, hnil2, hcell2⟩ := hr.lies
  unfold maxLen at hcm2
  have HCR := hidH hcell2
  clear hb hr hnil2 hcell2
  by_cases hl : R.length = zs1.length
  · have hli : ((R.length : Int) == (zs1.length : Int)) = true := by simp [hl]
    have HE := hidH (show wrongA zs0 zs1 = diffTo R zs1 R.length by rw [wrongA, ← HRR.out, if_pos hl, hl])
    have HL := hidH hl
    have hli2 : ((R.length : Int) != (zs1.length : Int)) = false := by simp [hl]
    have HO : w1.ownsRow w1.heap.size 3 1 (.slice none 0 0) 0 (ints (diffTo R zs1 0)) := ⟨rfl, .inl ⟨rfl, rfl⟩⟩
    have HO := hidH HO
    clear hl
    go_wp2_with fail
    go_loopw [6, 18] (fun o i wr => ∃ (k n : Nat) (ov : Value), k ≤ R.length ∧ i = .int .i64 k ∧ ov = o ∧ n = (diffTo R zs1 k).length ∧ wr.ownsRow w1.heap.size 3 1 ov n (ints (diffTo R zs1 k)) ∧ Below w1.heap.size w1 wr) (fun _ i _ => R.length - (intOf i).toNat)
    case atStart => exact ⟨0, 0, _, Nat.zero_le _, rfl, rfl, rfl, HO.out, Below.refl _ _⟩
    case round =>
      obtain ⟨k, n, ov, hk, rfl, rfl, hn, hown, hb⟩ := hrel
      have HW := hidH hown
      have HBq := hidH hb
      have hnk := diffTo_le R zs1 k
      rw [← hn] at hnk
      have HN := hidH hn
      clear hown hb hn
      have hszq := HBq.out.size
      by_cases hlt : k < R.length
      · obtain ⟨r, hr⟩ := get_lt R k hlt
        obtain ⟨m, hm⟩ := get_lt zs1 k (by rw [← HL.out]; exact hlt)
        obtain ⟨b2, off2, rfl, _, hb2, hcr⟩ := HCR.out k r hr
        obtain ⟨b1, off1, rfl, _, _, hcm⟩ := HCB.out k m hm
        have hcrw : wr.cell? ⟨b2, off2 + k, none⟩ = some (.int .i64 r) := by rw [HBq.out.cell (p := ⟨b2, off2 + k, none⟩) (cell_blk _ _ _ hcr)]; exact hcr
        have hbm := cell_blk _ _ _ hcm
        have hcmw : wr.cell? ⟨b1, off1 + k, none⟩ = some (.int .i64 m) := by rw [HBq.out.cell (p := ⟨b1, off1 + k, none⟩) (by have := HB1.out.size; show b1 < w1.heap.size; exact Nat.lt_of_lt_of_le hbm this), HB1.out.cell (p := ⟨b1, off1 + k, none⟩) hbm]; exact hcm
        have hlk : k < zs1.length := by rw [← HL.out]; exact hlt
        have HRk := hidH hr
        have HMk := hidH hm
        clear hr hm hcr hcm hbm
        by_cases hrm : r = m
        · have HX := hidH (diff_same HRk.out HMk.out hrm)
          subst hrm
          go_wp2_with fail
          go_roundw
          case rel => exact ⟨k + 1, n, ov, by omega, by go_num, rfl, by rw [HX.out]; exact HN.out, by rw [HX.out]; exact HW.out, HBq.out⟩
          case measure => simp [intOf]; omega
        · have HX := hidH (ints_diff HRk.out HMk.out hrm)
          have HXL := hidH (show n + 1 = (diffTo R zs1 (k + 1)).length by rw [diff_other HRk.out HMk.out hrm, List.length_append, ← HN.out]; rfl)
          have hrb : (r == m) = false := beq_eq_false_iff_ne.2 hrm
          have hrb2 : (r != m) = true := bne_iff_ne.2 hrm
          go_wp2_with (at_builtin; refine wpList_append_own _ rfl _ _ 25 rfl w1.heap.size 3 i0 (.int .i64 0) 1 8 Try.underlying25 hi0' hz0 hz1 hz2 rfl (by decide) _ _ _ rfl (owns_below HW.out ((Below.refl _ wr).alloc (Nat.le_refl _) _)) ⟨wr.heap.size, 0, none⟩ 1 1 [.int .i64 (k : Int)] rfl rfl (news_one wr _ _) (one_one _) (by unfold maxLen; omega) (by omega) (by simp; omega) ?_)
          intro v' w9 hown1 hgrow _
          have HR := hidH hown1
          have HG := hidH hgrow
          clear hown1 hgrow
          go_wp2_with fail
          go_roundw
          case rel =>
            refine ⟨k + 1, n + 1, v', by omega, by go_num, rfl, HXL.out, ?_, ?_⟩
            · have h := HR.out
              rw [← HX.out] at h
              exact h
            · exact (HBq.out.alloc hszq _).grown HG.out (by simp; omega) fun g hg => (HW.out.lt g hg).1
          case measure => simp [intOf]; omega
      · obtain rfl : k = R.length := by omega
        go_wp2_with fail
        go_ret
        rw [HE.out]
        exact ⟨_, rfl, (row_of_owns HW.out).1.mono HB1.out.size (Nat.le_refl _), HB1.out.trans (HBq.out.mono HB1.out.size)⟩
  · have hli2 : ((R.length : Int) != (zs1.length : Int)) = true := by simp; omega
    have hli : ((R.length : Int) == (zs1.length : Int)) = false := by simp; omega
    have HE := hidH (show wrongA zs0 zs1 = [] by rw [wrongA, ← HRR.out, if_neg hl])
    have HL := hidH hl
    clear hl
    go_wp2_with fail
    go_ret
    rw [HE.out]
    exact ⟨_, rfl, Row.nil _ _ _ _ _ (Nat.zero_le _) (fun _ => rfl), HB1.out⟩
set_option maxHeartbeats 1000000 in
theorem sWrong_any (v0 : Value) (zs0 : List Int) (v1 : Value) (zs1 : List Int) (w : World) (lo0 hi0 lo1 hi1 : Nat) (hv0 : Lies w lo0 hi0 v0 zs0) (hv1 : Lies w lo1 hi1 v1 zs1) : Calls Try.prog 26 #[v0, v1] w (NewRow (wrongA zs0 zs1) w) := by
  have HV0 := hidH hv0
  obtain ⟨a0, cap0, rfl, hlc0, hcm0, hnil0, hcell0⟩ := hv0
  obtain ⟨a1, cap1, rfl, hlc1, hcm1, hnil1, hcell1⟩ := hv1
  unfold maxLen at hcm0 hcm1
  have HCA := hidH hcell0
  have HCB := hidH hcell1
  obtain ⟨i0, hi0', hz0, hz1, hz2⟩ := info_parts infoInt
  have HO := hidH (World.ownsRow_made (base := w.heap.size) (e := 3) (size := 1) w #[] 0 (Nat.le_refl _) (Nat.zero_le _) rfl)
  clear hnil0 hcell0 hnil1 hcell1
  cases ht : tableOk zs0
  · have HT := hidH ht
    have HE := hidH (show wrongA zs0 zs1 = [] by
      rw [wrongA, restA, ht]
      cases zs1
      · rfl
      · rfl)
    clear ht
    go_enter Try.func26, Try.ntmps26
    go_wp2_with fail
    go_loopw [5, 6] (fun o i wr => i = .int .i64 0 ∧ o = .slice (some ⟨w.heap.size, 0, none⟩) 0 0 ∧ Below w.heap.size w wr) (fun _ _ _ => 0)
    case atStart => exact ⟨rfl, rfl, (Below.refl _ _).alloc (Nat.le_refl _) _⟩
    case round =>
      obtain ⟨rfl, rfl, hb⟩ := hrel
      have HBq := hidH hb
      clear hb
      by_cases h0 : 0 < zs0.length
      · go_wp2_with fail
        refine (sTableValid_gives _ zs0 _ _ _ (HV0.out.below HBq.out)).mono ?_; rintro e w1 ⟨rfl, hb⟩
        rw [HT.out]
        have HB2 := hidH (HBq.out.trans (hb.mono HBq.out.size))
        clear hb
        go_wp2_with fail
        go_ret
        rw [HE.out]
        exact ⟨_, rfl, Row.nil _ _ _ _ _ (Nat.zero_le _) (fun h => by cases h), HB2.out⟩
      · have h0' : zs0.length = 0 := by omega
        go_wp2_with fail
        go_ret
        rw [HE.out]
        exact ⟨_, rfl, Row.nil _ _ _ _ _ (Nat.zero_le _) (fun h => by cases h), HBq.out⟩
  · have HT := hidH ht
    have ⟨ht1, ht2⟩ := tableOk_len _ ht
    have HRL := hidH (show restA 9 zs0 = restL zs0 9 by rw [restA, ht]; rfl)
    have HRN := hidH (restL_length zs0 9)
    clear ht
    by_cases hl : zs0.length = zs1.length
    · have hli : ((zs0.length : Int) == (zs1.length : Int)) = true := by simp [hl]
      have HE := hidH (show wrongA zs0 zs1 = diffTo (restL zs0 9) zs1 zs0.length by rw [wrongA, HRL.out, HRN.out, if_pos hl, hl])
      have HL := hidH hl
      clear hl
      go_enter Try.func26, Try.ntmps26
      go_wp2_with fail
      go_loopw [5, 6] (fun o i wr => ∃ (k n : Nat) (ov : Value), k ≤ zs0.length ∧ i = .int .i64 k ∧ ov = o ∧ n = (diffTo (restL zs0 9) zs1 k).length ∧ wr.ownsRow w.heap.size 3 1 ov n (ints (diffTo (restL zs0 9) zs1 k)) ∧ Below w.heap.size w wr) (fun _ i _ => zs0.length - (intOf i).toNat)
      case atStart => exact ⟨0, 0, _, Nat.zero_le _, rfl, rfl, rfl, HO.out, (Below.refl _ _).alloc (Nat.le_refl _) _⟩
      case round =>
        obtain ⟨k, n, ov, hk, rfl, rfl, hn, hown, hb⟩ := hrel
        have HW := hidH hown
        have HBq := hidH hb
        have hnk := diffTo_le (restL zs0 9) zs1 k
        rw [← hn] at hnk
        have HN := hidH hn
        clear hown hb hn
        have hszq := HBq.out.size
        by_cases hlt : k < zs0.length
        · obtain ⟨z, hz⟩ := get_lt zs0 k hlt
          obtain ⟨m, hm⟩ := get_lt zs1 k (by rw [← HL.out]; exact hlt)
          have hzb := tab_bd HT.out hz
          obtain ⟨b0, off0, rfl, _, _, hcz⟩ := HCA.out k z hz
          obtain ⟨b1, off1, rfl, _, _, hcm⟩ := HCB.out k m hm
          have HCZ := hidH hcz
          have HCM := hidH hcm
          have HBZ := hidH (cell_blk _ _ _ hcz)
          have HBM := hidH (cell_blk _ _ _ hcm)
          have hlk : k < zs1.length := by rw [← HL.out]; exact hlt
          have HRk := hidH (restL_get zs0 9 k z hz)
          have HMk := hidH hm
          clear hz hm hcz hcm
          go_wp2_with fail
          refine (sTableValid_gives _ zs0 _ _ _ (HV0.out.below HBq.out)).mono ?_; rintro e w1 ⟨rfl, hb⟩
          rw [HT.out]
          have HB2 := hidH (HBq.out.trans (hb.mono HBq.out.size))
          have HW2 := hidH (owns_below HW.out hb)
          have hcw : w1.cell? ⟨b0, off0 + k, none⟩ = some (.int .i64 z) := by rw [HB2.out.cell (p := ⟨b0, off0 + k, none⟩) HBZ.out]; exact HCZ.out
          have hcwm : w1.cell? ⟨b1, off1 + k, none⟩ = some (.int .i64 m) := by rw [HB2.out.cell (p := ⟨b1, off1 + k, none⟩) HBM.out]; exact HCM.out
          have hsz2 := HB2.out.size
          clear hb HW HBq
          have HRC := hidH fun w => sRest9_any z hzb w
          generalize restN z 9 = r at *
          by_cases hrm : r = m
          · have HX := hidH (diff_same HRk.out HMk.out hrm)
            subst hrm
            have HBd := hidH (HB2.out.drew)
            have HWd := hidH (owns_below HW2.out (Below.refl w1.heap.size w1).drew)
            go_wp2_with fail
            go_region_with (go_at_call 61; (with_reducible refine (HRC.out _).mono ?_); rintro e w_ ⟨rfl, rfl⟩)
            all_goals (
              generalize w1.drew = wd at *
              go_wp2_with fail
              go_roundw
              case rel => exact ⟨k + 1, n, ov, by omega, by go_num, rfl, by rw [HX.out]; exact HN.out, by rw [HX.out]; exact HWd.out, HBd.out⟩
              case measure => simp [intOf]; omega)
          · have HX := hidH (ints_diff HRk.out HMk.out hrm)
            have HXL := hidH (show n + 1 = (diffTo (restL zs0 9) zs1 (k + 1)).length by rw [diff_other HRk.out HMk.out hrm, List.length_append, ← HN.out]; rfl)
            have hrb : (r == m) = false := beq_eq_false_iff_ne.2 hrm
            have hrb2 : (r != m) = true := bne_iff_ne.2 hrm
            have HBd := hidH (HB2.out.drew)
            have HWd := hidH (owns_below HW2.out (Below.refl w1.heap.size w1).drew)
            have hszd : w.heap.size ≤ w1.drew.heap.size := hsz2
            go_wp2_with fail
            go_region_with (go_at_call 61; (with_reducible refine (HRC.out _).mono ?_); rintro e w_ ⟨rfl, rfl⟩)
            all_goals (
              generalize w1.drew = wd at *
              go_wp2_with (at_builtin; refine wpList_append_own _ rfl _ _ 25 rfl w.heap.size 3 i0 (.int .i64 0) 1 8 Try.underlying25 hi0' hz0 hz1 hz2 rfl (by decide) _ _ _ rfl (owns_below HWd.out ((Below.refl _ wd).alloc (Nat.le_refl _) _)) ⟨wd.heap.size, 0, none⟩ 1 1 [.int .i64 (k : Int)] rfl rfl (news_one wd _ _) (one_one _) (by unfold maxLen; omega) (by omega) (by simp; omega) ?_)
              intro v' w9 hown1 hgrow _
              have HR := hidH hown1
              have HG := hidH hgrow
              clear hown1 hgrow
              go_wp2_with fail
              go_roundw
              case rel =>
                refine ⟨k + 1, n + 1, v', by omega, by go_num, rfl, HXL.out, ?_, ?_⟩
                · have h := HR.out
                  rw [← HX.out] at h
                  exact h
                · exact (HBd.out.alloc hszd _).grown HG.out (by simp; omega) fun g hg => (HWd.out.lt g hg).1
              case measure => simp [intOf]; omega)
        · obtain rfl : k = zs0.length := by omega
          go_wp2_with fail
          go_ret
          rw [HE.out]
          exact ⟨_, rfl, (row_of_owns HW.out).1, HBq.out⟩
    · have hli : ((zs0.length : Int) == (zs1.length : Int)) = false := by simp; omega
      have HE := hidH (show wrongA zs0 zs1 = [] by rw [wrongA, HRL.out, HRN.out, if_neg hl])
      have h0 : 0 < zs0.length := by omega
      have HL := hidH hl
      clear hl
      go_enter Try.func26, Try.ntmps26
      go_wp2_with fail
      go_loopw [5, 6] (fun o i wr => i = .int .i64 0 ∧ o = .slice (some ⟨w.heap.size, 0, none⟩) 0 0 ∧ Below w.heap.size w wr) (fun _ _ _ => 0)
      case atStart => exact ⟨rfl, rfl, (Below.refl _ _).alloc (Nat.le_refl _) _⟩
      case round =>
        obtain ⟨rfl, rfl, hb⟩ := hrel
        have HBq := hidH hb
        clear hb
        go_wp2_with fail
        refine (sTableValid_gives _ zs0 _ _ _ (HV0.out.below HBq.out)).mono ?_; rintro e w1 ⟨rfl, hb⟩
        rw [HT.out]
        have HB2 := hidH (HBq.out.trans (hb.mono HBq.out.size))
        clear hb
        go_wp2_with fail
        go_ret
        rw [HE.out]
        exact ⟨_, rfl, Row.nil _ _ _ _ _ (Nat.zero_le _) (fun h => by cases h), HB2.out⟩
end Go.Proofs.Ytojpnlipfbahdaa
