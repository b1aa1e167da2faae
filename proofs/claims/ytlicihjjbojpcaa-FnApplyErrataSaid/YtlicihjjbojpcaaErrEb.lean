/-
  ErrataOf: the model, at every argument. No conditions but that slices fit in memory.
-/
import Derived.Test.YtlicihjjbojpcaaErrEa
namespace Go.Proofs.Ytlicihjjbojpcaa
set_option maxRecDepth 4000
open Go.RowKit
set_option maxHeartbeats 1600000 in
theorem sErrataOf_any (v0 : Value) (zs0 : List Int) (v1 : Value) (zs1 : List Int) (w : World) (lo0 hi0 lo1 hi1 : Nat) (hv0 : Lies w lo0 hi0 v0 zs0) (hv1 : Lies w lo1 hi1 v1 zs1) : Calls Try.prog 24 #[v0, v1] w (NewErrB (errataN zs0 zs1) (errataF zs0 zs1) (tabsOk zs0 zs1) w) := by
  have HBA := hidH ((Below.refl w.heap.size w).alloc (Nat.le_refl _) (.cells #[] 42))
  have HV0 := hidH (hv0.below HBA.out)
  have HV1 := hidH (hv1.below HBA.out)
  obtain ⟨a0, cap0, rfl, hlc0, hcm0, _, hcell0⟩ := hv0
  obtain ⟨a1, cap1, rfl, hlc1, hcm1, _, hcell1⟩ := hv1
  unfold maxLen at hcm0 hcm1
  have HCC0 := hidH hcell0
  have HCC1 := hidH hcell1
  clear hcell0 hcell1
  cases ht0 : tableOk zs0
  · have HT0 := hidH ht0
    have HN := hidH (show errataN zs0 zs1 = 0 by unfold errataN tabsOk; rw [ht0]; simp)
    have HF := hidH (show errataF zs0 zs1 = [] by unfold errataF tabsOk; rw [ht0]; simp)
    have HB := hidH (show tabsOk zs0 zs1 = false by unfold tabsOk; rw [ht0]; simp)
    rw [HN.out, HF.out, HB.out]
    clear ht0
    go_enter Try.func24, Try.ntmps24
    go_wp2_with fail
    refine (sTableValid_any _ zs0 _ _ _ HV0.out).mono ?_; rintro e w_ ⟨rfl, rfl⟩
    rw [HT0.out]
    go_wp2_with fail
    go_ret2
    exact ⟨_, rfl, Row3.nil _ _ _ _ _ (by unfold maxLen; omega) (fun _ => rfl), HBA.out⟩
  · have HT0 := hidH ht0
    cases ht1 : tableOk zs1
    · have HT1 := hidH ht1
      have HN := hidH (show errataN zs0 zs1 = 0 by unfold errataN tabsOk; rw [ht0, ht1]; simp)
      have HF := hidH (show errataF zs0 zs1 = [] by unfold errataF tabsOk; rw [ht0, ht1]; simp)
      have HB := hidH (show tabsOk zs0 zs1 = false by unfold tabsOk; rw [ht0, ht1]; simp)
      rw [HN.out, HF.out, HB.out]
      clear ht0 ht1
      go_enter Try.func24, Try.ntmps24
      go_wp2_with fail
      refine (sTableValid_any _ zs0 _ _ _ HV0.out).mono ?_; rintro e w_ ⟨rfl, rfl⟩
      rw [HT0.out]
      go_wp2_with fail
      refine (sTableValid_any _ zs1 _ _ _ HV1.out).mono ?_; rintro e w_ ⟨rfl, rfl⟩
      rw [HT1.out]
      go_wp2_with fail
      go_ret2
      exact ⟨_, rfl, Row3.nil _ _ _ _ _ (by unfold maxLen; omega) (fun _ => rfl), HBA.out⟩
    · have HT1 := hidH ht1
      by_cases hll : zs0.length = zs1.length
      · have HTT := hidH (show tabsOk zs0 zs1 = true by unfold tabsOk; rw [ht0, ht1, decide_eq_true hll]; rfl)
        have HN := hidH (show errataN zs0 zs1 = errN zs0 zs1 zs0.length by unfold errataN; rw [HTT.out]; rfl)
        have HF := hidH (show errataF zs0 zs1 = errF zs0 zs1 zs0.length by unfold errataF; rw [HTT.out]; rfl)
        rw [HN.out, HF.out, HTT.out]
        have ⟨hl1, hl2⟩ := tableOk_len _ ht0
        obtain ⟨z0, hzz0⟩ := get_lt zs0 0 (by omega)
        obtain ⟨y0, hyy0⟩ := get_lt zs1 0 (by omega)
        obtain ⟨b0, off0, rfl, _, _, _⟩ := HCC0.out 0 z0 hzz0
        obtain ⟨b1, off1, rfl, _, _, _⟩ := HCC1.out 0 y0 hyy0
        have HCA := hidH (fun (j : Nat) z (hj : zs0[j]? = some z) => show w.cell? ⟨b0, off0 + j, none⟩ = some (.int .i64 z) by
          obtain ⟨_, _, e, _, _, hc⟩ := HCC0.out j z hj
          injection e with e; injection e with e1 e2; subst e1; subst e2; exact hc)
        have HCB := hidH (fun (j : Nat) z (hj : zs1[j]? = some z) => show w.cell? ⟨b1, off1 + j, none⟩ = some (.int .i64 z) by
          obtain ⟨_, _, e, _, _, hc⟩ := HCC1.out j z hj
          injection e with e; injection e with e1 e2; subst e1; subst e2; exact hc)
        obtain ⟨i0, hi0', hz0, hz1, hz2⟩ := info3
        have hi0 := hi0'
        have HLL := hidH hll
        have hln : zs0.length ≤ zs1.length := by omega
        have hbl : ((zs0.length : Int) != (zs1.length : Int)) = false := by rw [hll]; exact bne_self_eq_false _
        clear ht0 ht1 hzz0 hyy0 hll hi0'
        go_enter Try.func24, Try.ntmps24
        go_wp2_with fail
        refine (sTableValid_any _ zs0 _ _ _ HV0.out).mono ?_; rintro e w_ ⟨rfl, rfl⟩
        rw [HT0.out]
        go_wp2_with fail
        refine (sTableValid_any _ zs1 _ _ _ HV1.out).mono ?_; rintro e w_ ⟨rfl, rfl⟩
        rw [HT1.out]
        go_wp2_with fail
        go_loopw [6, 7] (fun o i wr => ∃ (k : Nat) (ov : Value), k ≤ zs0.length ∧ i = .int .i64 k ∧ ov = o ∧ wr.ownsRow w.heap.size 42 3 ov (errN zs0 zs1 k) (ints (errF zs0 zs1 k)) ∧ Below w.heap.size w wr) (fun o i _ => zs0.length - (intOf i).toNat)
        case atStart => exact ⟨0, _, Nat.zero_le _, rfl, rfl, World.ownsRow_made w #[] 0 (Nat.le_refl _) (Nat.zero_le _) rfl, (Below.refl _ _).alloc (Nat.le_refl _) _⟩
        case round =>
          obtain ⟨k, ov, hk, rfl, rfl, hown, hb⟩ := hrel
          have HW := hidH hown
          have HB := hidH hb
          clear hown hb
          by_cases hlt : k < zs0.length
          · obtain ⟨z, hz⟩ := get_lt zs0 k hlt
            obtain ⟨y, hy⟩ := get_lt zs1 k (by omega)
            have hc := HCA.out k z hz
            have hc2 := HCB.out k y hy
            have hbw0 : b0 < w.heap.size := cell_blk _ _ _ hc
            have hbw1 : b1 < w.heap.size := cell_blk _ _ _ hc2
            have hcw : wr.cell? ⟨b0, off0 + k, none⟩ = some (.int .i64 z) := by rw [HB.out.cell (p := ⟨b0, off0 + k, none⟩) hbw0]; exact hc
            have hcw2 : wr.cell? ⟨b1, off1 + k, none⟩ = some (.int .i64 y) := by rw [HB.out.cell (p := ⟨b1, off1 + k, none⟩) hbw1]; exact hc2
            have hgz : zs0.getD k 0 = z := getD_of hz
            have hgy : zs1.getD k 0 = y := getD_of hy
            have hNk := errN_le zs0 zs1 k
            have hkz : k < zs1.length := by omega
            clear hz hy hc hc2
            by_cases hyz : y = z
            · have HS := hidH (errF_same zs0 zs1 k (by rw [hgy, hgz]; exact hyz))
              have hb1 : (y != z) = false := by rw [hyz]; exact bne_self_eq_false _
              have hb2 : (z != y) = false := by rw [hyz]; exact bne_self_eq_false _
              clear hgz hgy hyz
              go_wp2_with fail
              go_quiet (fail)
              go_wp2_with fail
              go_roundw
              case rel => exact ⟨k + 1, ov, by omega, by go_num, rfl, by rw [HS.out.1, HS.out.2]; exact HW.out, below_drewN HB.out _⟩
              case measure => simp [intOf]; omega
            · have HS := hidH (errF_more zs0 zs1 k (by rw [hgy, hgz]; exact hyz))
              rw [hgy, hgz] at HS
              have hb1 : (y != z) = true := bne_iff_ne.2 hyz
              have hb2 : (z != y) = true := bne_iff_ne.2 (Ne.symm hyz)
              have ag0 : ov.ownBlock ≠ some b0 := fun e => by have := (HW.out.lt b0 e).1; omega
              have ag1 : ov.ownBlock ≠ some b1 := fun e => by have := (HW.out.lt b1 e).1; omega
              have hsz := HB.out.size
              clear hgz hgy hyz
              go_wp2_with fail
              go_quiet (fail)
              have HW2 := hidH (show (wr.drewN nq).ownsRow w.heap.size 42 3 ov (errN zs0 zs1 k) (ints (errF zs0 zs1 k)) from HW.out)
              have HB2 := hidH (below_drewN HB.out nq)
              have hcq : (wr.drewN nq).cell? ⟨b0, off0 + k, none⟩ = some (.int .i64 z) := by rw [World.cell?_drewN]; exact hcw
              have hcq2 : (wr.drewN nq).cell? ⟨b1, off1 + k, none⟩ = some (.int .i64 y) := by rw [World.cell?_drewN]; exact hcw2
              have hsz2 := HB2.out.size
              clear hcw hcw2 HW HB hsz
              generalize wr.drewN nq = wq at *
              go_wp2_with fail
              go_region_held3 (fun w' => w'.cell? ⟨b0, off0 + k, none⟩ = some (.int .i64 z) ∧ w'.cell? ⟨b1, off1 + k, none⟩ = some (.int .i64 y))
                (first
                  | go_keep
                  | (go_split_ands
                     refine ⟨?_, ?_⟩
                     · (rw [hgrow.cell_far _ (by simp; omega) (Ne.symm ag0)]; assumption)
                     · (rw [hgrow.cell_far _ (by simp; omega) (Ne.symm ag1)]; assumption)))
                ((refine step_append_lies _ (by rfl) _ _ _ (by rfl) w.heap.size 42 i0 _ 3 24 Try.underlying38 hi0 hz0 hz1 hz2 rfl (by omega) ov (errN zs0 zs1 k) _ (by rfl) ((HW2.out.alloc _).drew)
                    ⟨wq.heap.size, 0, none⟩ 1 1 [.int .i64 (k : Int), .int .i64 y, .int .i64 z] (by rfl) (by rfl) (World.news_of_block (cs := #[.int .i64 (k : Int), .int .i64 y, .int .i64 z]) (t := 42) (fr := (0, 0)) (heap_alloc_new wq _)) (by simp [Value.oneCell'])
                    (by omega) (by unfold maxLen; omega) (by omega) (by simp; omega) (wq.heap.size + 1) (by simp) ?_; intro gg cap w1' hown1 hgrow hat hlt1))
              have HR := hidH hown1
              have HG := hidH hgrow
              clear hown1 hgrow hat
              go_wp2_with fail
              go_roundw
              case rel =>
                refine ⟨k + 1, _, by omega, by go_num, rfl, ?_, ?_⟩
                · rw [HS.out.1, HS.out.2, ints_append]
                  exact HR.out
                · exact (HB2.out.alloc hsz2 _).drew.grown HG.out (by simp; omega) fun g hg => (HW2.out.lt g hg).1
              case measure => simp [intOf]; omega
          · obtain rfl : k = zs0.length := by omega
            have HR := hidH (row3_of_owns HW.out (by have := errN_le zs0 zs1 zs0.length; omega))
            go_wp2_with fail
            go_ret2
            exact ⟨_, rfl, HR.out.mono (Nat.le_refl _) (Nat.le_refl _), HB.out⟩
      · have hbl : ((zs0.length : Int) != (zs1.length : Int)) = true := bne_iff_ne.2 (by omega)
        have hbl2 : ((zs0.length : Int) == (zs1.length : Int)) = false := beq_eq_false_iff_ne.2 (by omega)
        have HN := hidH (show errataN zs0 zs1 = 0 by unfold errataN tabsOk; rw [decide_eq_false hll]; simp)
        have HF := hidH (show errataF zs0 zs1 = [] by unfold errataF tabsOk; rw [decide_eq_false hll]; simp)
        have HB := hidH (show tabsOk zs0 zs1 = false by unfold tabsOk; rw [decide_eq_false hll]; simp)
        rw [HN.out, HF.out, HB.out]
        clear ht0 ht1 hll
        go_enter Try.func24, Try.ntmps24
        go_wp2_with fail
        refine (sTableValid_any _ zs0 _ _ _ HV0.out).mono ?_; rintro e w_ ⟨rfl, rfl⟩
        rw [HT0.out]
        go_wp2_with fail
        refine (sTableValid_any _ zs1 _ _ _ HV1.out).mono ?_; rintro e w_ ⟨rfl, rfl⟩
        rw [HT1.out]
        go_wp2_with fail
        go_ret2
        exact ⟨_, rfl, Row3.nil _ _ _ _ _ (by unfold maxLen; omega) (fun _ => rfl), HBA.out⟩
end Go.Proofs.Ytlicihjjbojpcaa
