/-
  ApplyErrata: the model, at every argument. Condition: at most 1048576 errata.
-/
import Derived.Test.YtlicihjjbojpcaaErrEf
import Derived.Test.YtlicihjjbojpcaaErrC
import Derived.Test.YtlicihjjbojpcaaPolyT
import Derived.StillTailTactics
namespace Go.Proofs.Ytlicihjjbojpcaa
set_option maxRecDepth 4000
open Go.RowKit
set_option maxHeartbeats 3200000 in
theorem sApplyE_any (v : Value) (zs : List Int) (u : Value) (n : Nat) (F : List Int) (w : World) (lo hi lo1 hi1 : Nat) (hv : Lies w lo hi v zs) (hu : Lies3 w lo1 hi1 u n F) (hn : n ≤ 1048576) : Calls Try.prog 28 #[v, u] w (NewRowB (applyA zs F n) (applyB zs F n) w) := by
  have HV0 := hidH hv
  have HE0 := hidH hu
  obtain ⟨a0, cap0, rfl, hlc0, hcm0, _, hcell0⟩ := hv
  obtain ⟨a1, cap1, rfl, hlc1, hcm1⟩ := lies3_len hu
  unfold maxLen at hcm0 hcm1
  clear hcell0 hu
  cases ht : tableOk zs
  · have HT := hidH ht
    have HA := hidH (apply_no zs F n (by unfold applyB; rw [ht]; simp))
    have HB := hidH (show applyB zs F n = false by unfold applyB; rw [ht]; simp)
    rw [HA.out, HB.out]
    clear ht
    go_enter Try.func28, Try.ntmps28
    go_wp2_with fail
    refine (sTableValid_gives _ zs _ _ _ HV0.out).mono ?_; rintro e w1 ⟨rfl, hb⟩
    have HV1 := hidH (HV0.out.below hb)
    have HE1 := hidH (HE0.out.below hb)
    have HB1 := hidH hb
    clear hb
    rw [HT.out]
    go_wp2_with fail
    go_ret2
    exact ⟨_, rfl, Row.nil _ _ _ _ _ (Nat.zero_le _) (fun _ => rfl), HB1.out.trans (((Below.refl _ _).alloc (Nat.le_refl _) _).mono HB1.out.size)⟩
  · have HT := hidH ht
    have ⟨hl1, hl2⟩ := tableOk_len _ ht
    cases hk : okEs F n
    · have HK := hidH hk
      have HA := hidH (apply_no zs F n (by unfold applyB; rw [ht, hk]; simp))
      have HB := hidH (show applyB zs F n = false by unfold applyB; rw [ht, hk]; simp)
      rw [HA.out, HB.out]
      clear ht hk
      go_enter Try.func28, Try.ntmps28
      go_wp2_with fail
      refine (sTableValid_gives _ zs _ _ _ HV0.out).mono ?_; rintro e w1 ⟨rfl, hb⟩
      have HV1 := hidH (HV0.out.below hb)
      have HE1 := hidH (HE0.out.below hb)
      have HB1 := hidH hb
      clear hb
      rw [HT.out]
      go_wp2_with fail
      refine (sErrValid_any _ n F _ _ _ HE1.out hn).mono ?_; rintro e w2 ⟨rfl, hb⟩
      have HV2 := hidH (HV1.out.below hb)
      have HE2 := hidH (HE1.out.below hb)
      have HB2 := hidH (HB1.out.trans (hb.mono HB1.out.size))
      clear hb HV1 HE1 HB1
      rw [HK.out]
      go_wp2_with fail
      go_ret2
      exact ⟨_, rfl, Row.nil _ _ _ _ _ (Nat.zero_le _) (fun _ => rfl), HB2.out.trans (((Below.refl _ _).alloc (Nat.le_refl _) _).mono HB2.out.size)⟩
    · have HK := hidH hk
      have HTT := hidH (show applyB zs F n = appOk zs F n by unfold applyB; rw [ht, hk, Bool.true_and, Bool.true_and])
      clear ht hk
      go_enter Try.func28, Try.ntmps28
      go_wp2_with fail
      refine (sTableValid_gives _ zs _ _ _ HV0.out).mono ?_; rintro e w1 ⟨rfl, hb⟩
      have HV1 := hidH (HV0.out.below hb)
      have HE1 := hidH (HE0.out.below hb)
      have HB1 := hidH hb
      clear hb
      rw [HT.out]
      go_wp2_with fail
      refine (sErrValid_any _ n F _ _ _ HE1.out hn).mono ?_; rintro e w2 ⟨rfl, hb⟩
      have HV2 := hidH (HV1.out.below hb)
      have HE2 := hidH (HE1.out.below hb)
      have HB2 := hidH (HB1.out.trans (hb.mono HB1.out.size))
      clear hb HV1 HE1 HB1
      rw [HK.out]
      obtain ⟨b0, off0, cc, e, _, _, _, _, hbw0, hcell0⟩ := HV2.out.addr (by omega)
      injection e with e1 e2 e3
      subst e1
      obtain ⟨i0, hi0, hz0, hz1, hz2⟩ := info_parts infoInt
      have HC0 := hidH (cells_map hcell0)
      have HO1 := hidH (oneCells zs)
      clear e2 e3 hcell0
      go_wp2_with (at_builtin; refine wpList_append_own _ rfl _ _ 23 rfl w2.heap.size 3 i0 (.int .i64 0) 1 8 Try.underlying23 hi0 hz0 hz1 hz2 rfl (by decide) _ _ _ rfl (World.ownsRow_made w2 #[] 0 (Nat.le_refl _) (Nat.zero_le _) rfl) ⟨b0, off0, none⟩ zs.length cap0 (ints zs) rfl ?qc1 ?qc2 HO1.out ?qc4 ?qc5 ?qc6 ?_)
      case qc1 => rw [ints_length, Nat.mul_one]
      case qc2 => exact HC0.out _ ((Below.refl _ _).alloc (Nat.le_refl _) _)
      case qc4 => unfold maxLen; omega
      case qc5 => omega
      case qc6 => simp
      intro v' w8 hown hgrow hnil
      have HB28 := hidH (((Below.refl w2.heap.size w2).alloc (Nat.le_refl _) (.cells #[] 3)).grown hgrow (by simp) (by intro k hk; simp [Value.ownBlock] at hk; omega))
      have hr := (row_of_owns hown).1
      obtain ⟨b8, c8, rfl, hlc8, hcm8, hlo8, hhi8, hblk⟩ := hr.blk (by omega)
      have HK8 := hidH hblk
      clear hown hgrow hnil hr hblk HC0 HO1
      unfold maxLen at hcm8
      have HE8 := hidH (HE2.out.below HB28.out)
      have HB8 := hidH (HB2.out.trans (HB28.out.mono HB2.out.size))
      have hs2 := HB2.out.size
      have hs8 := HB28.out.size
      clear HB2
      by_cases h0 : n = 0
      · subst h0
        have HAA := hidH (show applyA zs F 0 = zs by unfold applyA; rw [HTT.out]; rfl)
        have HBB := hidH (show applyB zs F 0 = true by rw [HTT.out]; rfl)
        go_wp2_with fail
        go_loopw [7] (fun i wr => i = .int .i64 0 ∧ w8 = wr) (fun _ _ => 0)
        case atStart => exact ⟨rfl, rfl⟩
        case round =>
          obtain ⟨rfl, rfl⟩ := hrel
          go_wp2_with fail
          go_ret2
          exact ⟨_, by rw [HBB.out]; rfl, by rw [HAA.out]; exact HK8.out.row (by omega) HK8.out.1 hlc8 (by unfold maxLen; omega) rfl, HB8.out⟩
      · obtain ⟨b1, off1, cc1, e, _, _, hbw1, hcl⟩ := lies3_cells HE2.out (by omega)
        injection e with e1 e2 e3
        subst e1
        have HCL := hidH hcl
        clear e2 e3 hcl
        go_wp2_with fail
        go_loopw [7] (fun i wr => ∃ k : Nat, k ≤ n ∧ i = .int .i64 k ∧ appOk zs F k = true ∧ Blk wr b8 (appL zs F k) ∧ Onto b8 w8 wr) (fun i _ => n - (intOf i).toNat)
        case atStart => exact ⟨0, Nat.zero_le _, rfl, rfl, HK8.out, Onto.refl _ _⟩
        case round =>
          obtain ⟨k, hk, rfl, hap, hblk, ho⟩ := hrel
          have HAP := hidH hap
          have HBK := hidH hblk
          have HO := hidH ho
          have hsr := ho.size
          have HNB := hidH (fun m => below_drewN (HB8.out.trans (HO.out.below (by omega) (by omega))) m)
          clear hap hblk ho
          by_cases hlt : k < n
          · have hcel : ∀ (p : Addr) (x : Value), p.block < w2.heap.size → w2.cell? p = some x → wr.cell? p = some x := fun p x hp hx => by
              rw [HO.out.cell (by omega) (by omega), HB28.out.cell hp]; exact hx
            have ⟨q0, q1, q2⟩ := HCL.out k hlt
            have hcA := hcel _ _ hbw1 q0
            have hcW := hcel _ _ hbw1 q1
            have hcR := hcel _ _ hbw1 q2
            have hone := (okE_iff F k).1 (okEs_at F n HK.out k hlt)
            have hls := (least_nn F k (okEs_pre F n HK.out k hk)).1
            obtain ⟨⟨hx1, hx2⟩, _, _, _⟩ := hone
            have HX1 := hidH (show appL zs F (k + 1) = (appL zs F k).set (eAt F k).toNat (eRi F k) from rfl)
            have HX2 := hidH (show appOk zs F (k + 1) = (appOk zs F k && appOne zs F k) from rfl)
            have HX3 := hidH (show appOne zs F k = (decide (eAt F k < (zs.length : Int)) && decide (zs.getD (eAt F k).toNat 0 = eWr F k)) from rfl)
            have HNO := hidH (fun (h : appOne zs F k = false) => show applyA zs F n = [] ∧ applyB zs F n = false from by
              have h2 := appOk_no zs F k h n hlt
              have h3 : applyB zs F n = false := by rw [HTT.out, h2]
              exact ⟨apply_no zs F n h3, h3⟩)
            have hll := appL_len zs F k
            obtain ⟨xn, hxn⟩ : ∃ m : Nat, eAt F k = (m : Int) := ⟨(eAt F k).toNat, by omega⟩
            have HAB := hidH (appL_above zs F k (okEs_pre F n HK.out k hk) xn (by omega))
            rw [hxn, Int.toNat_natCast] at HX1 HX3
            rw [hxn] at hcA hx2
            have HLL := hidH hll
            clear q0 q1 q2 hcel hx1 hls hll hxn
            generalize eWr F k = y at *
            generalize eRi F k = z at *
            by_cases cA : zs.length ≤ xn
            · have hno := hidH (HNO.out (by rw [HX3.out, decide_eq_false (by omega)]; rfl))
              have hdA : decide ((zs.length : Int) ≤ (xn : Int)) = true := decide_eq_true (by omega)
              have hdB : decide (zs.length ≤ xn) = true := decide_eq_true (by omega)
              go_wp2_with fail
              go_quiet (fail)
              go_wp2_with fail
              go_ret2
              exact ⟨_, by rw [hno.out.2]; rfl, by rw [hno.out.1]; exact Row.nil _ _ _ _ _ (Nat.zero_le _) (fun _ => rfl), (HNB.out _).trans (((Below.refl _ _).alloc (Nat.le_refl _) _).mono (HNB.out _).size)⟩
            · obtain ⟨z0, hz0⟩ := get_lt zs xn (by omega)
              have hgz := getD_of hz0
              rw [hgz] at HX3
              have hdA : decide ((zs.length : Int) ≤ (xn : Int)) = false := decide_eq_false (by omega)
              have hdB : decide (zs.length ≤ xn) = false := decide_eq_false (by omega)
              have hxl : xn < zs.length := by omega
              have hxl2 : (xn : Int) < (zs.length : Int) := by omega
              have ht0 : (appL zs F k)[xn]? = some z0 := by rw [HAB.out]; exact hz0
              obtain ⟨hcT, hfT⟩ := HBK.out.2 xn z0 ht0
              clear hz0 hgz ht0
              by_cases cB : z0 = y
              · have HOK := hidH (show appOk zs F (k + 1) = true by rw [HX2.out, HAP.out, HX3.out, decide_eq_true cB, decide_eq_true hxl2]; rfl)
                subst cB
                have hbz : (z0 != z0) = false := bne_self_eq_false _
                go_wp2_with fail
                go_quiet (fail)
                go_wp2_with fail
                have HBS := hidH ((((HBK.out.drewN nq).drewN 1).set xn z))
                have HOD := hidH ((HO.out.drewN nq).drewN 1)
                have hcA2 : (wr.drewN nq).cell? ⟨b1, off1 + k * 3, none⟩ = some (.int .i64 (xn : Int)) := hcA
                have hcR2 : (wr.drewN nq).cell? ⟨b1, off1 + k * 3 + 2, none⟩ = some (.int .i64 z) := hcR
                have hcT2 : (wr.drewN nq).cell? ⟨b8, xn, none⟩ = some (.int .i64 z0) := hcT
                have hfT2 : (wr.drewN nq).frozen? ⟨b8, xn, none⟩ = false := hfT
                clear hcA hcR hcT hfT hcW hsr HNB HO HBK
                generalize wr.drewN nq = wq at *
                go_still_tail 12, (by kernel_rfl)
                change wpList _ _ _ _ _ wq.drew
                go_wp2_with fail
                go_roundw
                case rel => exact ⟨k + 1, by omega, by go_num, HOK.out, by rw [HX1.out]; exact HBS.out, HOD.out.trans (Onto.setCell b8 xn _ _)⟩
                case measure => simp [intOf]; omega
              · have hno := hidH (HNO.out (by rw [HX3.out, decide_eq_false cB, Bool.and_false]))
                have hbz : (z0 != y) = true := bne_iff_ne.2 cB
                go_wp2_with fail
                go_quiet (fail)
                go_wp2_with fail
                go_ret2
                exact ⟨_, by rw [hno.out.2]; rfl, by rw [hno.out.1]; exact Row.nil _ _ _ _ _ (Nat.zero_le _) (fun _ => rfl), (HNB.out _).trans (((Below.refl _ _).alloc (Nat.le_refl _) _).mono (HNB.out _).size)⟩
          · obtain rfl : k = n := by omega
            have HAA := hidH (show applyA zs F k = appL zs F k by unfold applyA; rw [HTT.out, HAP.out]; rfl)
            have HBB := hidH (show applyB zs F k = true by rw [HTT.out, HAP.out])
            have hll := appL_len zs F k
            go_wp2_with fail
            go_ret2
            exact ⟨_, by rw [HBB.out]; rfl, by rw [HAA.out]; exact HBK.out.row (by omega) HBK.out.1 (by omega) (by unfold maxLen; omega) hll.symm, HB8.out.trans (HO.out.below (by omega) (by omega))⟩
end Go.Proofs.Ytlicihjjbojpcaa
