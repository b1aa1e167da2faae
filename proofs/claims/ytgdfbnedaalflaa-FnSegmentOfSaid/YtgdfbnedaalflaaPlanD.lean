/-
  SegmentOf: the model, at every argument. No conditions but that slices fit in memory.
-/
import Derived.Test.YtgdfbnedaalflaaPlanC
namespace Go.Proofs.Ytgdfbnedaalflaa
set_option maxRecDepth 4000
open Go.RowKit
set_option maxHeartbeats 1600000 in
theorem sSegOf_any (v0 : Value) (zs0 : List Int) (n1 n2 n3 : Int) (w : World) (lo0 hi0 : Nat) (hv0 : Lies w lo0 hi0 v0 zs0) : Calls Try.prog 13 #[v0, .int .i64 n1, .int .i64 n2, .int .i64 n3] w (NewSegB (segC zs0 n1 n2 n3) (segP zs0 n1 n2 n3) (segB zs0 n1 n2 n3) w) := by
  have HB1 := hidH (bMore (Below.refl w.heap.size w) (.cells #[.int .i64 0, .slice none 0 0] 32))
  have HV1 := hidH (hv0.below HB1.out)
  have HZ1 := hidH (SegAt.fresh w 0 (.slice none 0 0))
  obtain ⟨a0, cap0, rfl⟩ := hv0.some
  obtain ⟨_, _, e, hlc0, hcm0, _, _⟩ := hv0
  injection e with e1 e2 e3
  subst e1; subst e3
  unfold maxLen at hcm0
  have hsl : smallOk zs0 = true → 1 ≤ zs0.length ∧ zs0.length ≤ 60 := fun h => ⟨((small_iff zs0).1 h).1, ((small_iff zs0).1 h).2.1⟩
  cases hs : smallOk zs0
  · have HN := hidH (seg_no zs0 n1 n2 n3 (by unfold segB; rw [hs]; simp))
    have HNB := hidH (show segB zs0 n1 n2 n3 = false from (by unfold segB; rw [hs]; simp))
    rw [HN.out.1, HN.out.2, HNB.out]
    have HS := hidH hs
    clear hs hsl
    go_enter Try.func13, Try.ntmps13
    go_wp2_with fail
    refine (sSmall_any _ zs0 _ _ _ HV1.out).mono ?_; rintro e w2 ⟨rfl, hb⟩
    have HV2 := hidH (HV1.out.below hb)
    have HB2 := hidH (bThen HB1.out hb)
    have HZ2 := hidH (HZ1.out.below hb)
    clear hb HV1 HB1 HZ1
    rw [HS.out]
    go_wp2_with (refine wpList_store_row rfl 32 _ _ rfl w.heap.size _ rfl rfl 32 _ HZ2.out (seg_size _ _) rfl (by simp [Value.oneCell']) ?_)
    refine bodyPost_ret (results_segB Try.results13 _ _ w.heap.size _ _ _ rfl rfl (HZ2.out.setRow _ _)) rfl ?_
    exact ⟨_, rfl, Row.nil _ _ _ _ _ (Nat.zero_le _) (fun _ => rfl), bRow HB2.out (Nat.le_refl _) _⟩
  · have ⟨hl1, hl2⟩ := hsl hs
    have HS := hidH hs
    have HI1 := hidH (show decide ((0 : Int) ≤ n1 ∧ n1 ≤ (zs0.length : Int) - 1) = segAt zs0 n1 from decide_eq_decide.2 (by omega))
    clear hsl
    cases hd : degOk n3
    · have HN := hidH (seg_no zs0 n1 n2 n3 (by unfold segB; rw [hs, hd]; simp))
      have HNB := hidH (show segB zs0 n1 n2 n3 = false from (by unfold segB; rw [hs, hd]; simp))
      rw [HN.out.1, HN.out.2, HNB.out]
      have HD := hidH hd
      clear hs hd
      go_enter Try.func13, Try.ntmps13
      go_wp2_with fail
      refine (sSmall_any _ zs0 _ _ _ HV1.out).mono ?_; rintro e w2 ⟨rfl, hb⟩
      have HV2 := hidH (HV1.out.below hb)
      have HB2 := hidH (bThen HB1.out hb)
      have HZ2 := hidH (HZ1.out.below hb)
      clear hb HV1 HB1 HZ1
      rw [HS.out]
      go_wp2_with fail
      refine (sDeg4_any n3 _).mono ?_; rintro e w_ ⟨rfl, rfl⟩
      rw [HD.out]
      go_wp2_with (refine wpList_store_row rfl 32 _ _ rfl w.heap.size _ rfl rfl 32 _ HZ2.out (seg_size _ _) rfl (by simp [Value.oneCell']) ?_)
      refine bodyPost_ret (results_segB Try.results13 _ _ w.heap.size _ _ _ rfl rfl (HZ2.out.setRow _ _)) rfl ?_
      exact ⟨_, rfl, Row.nil _ _ _ _ _ (Nat.zero_le _) (fun _ => rfl), bRow HB2.out (Nat.le_refl _) _⟩
    · have HD := hidH hd
      cases ha : segAt zs0 n1
      · have HN := hidH (seg_no zs0 n1 n2 n3 (by unfold segB; rw [hs, ha]; simp))
        have HNB := hidH (show segB zs0 n1 n2 n3 = false from (by unfold segB; rw [hs, ha]; simp))
        rw [HN.out.1, HN.out.2, HNB.out]
        have HA := hidH ha
        clear hs hd ha
        go_enter Try.func13, Try.ntmps13
        go_wp2_with fail
        refine (sSmall_any _ zs0 _ _ _ HV1.out).mono ?_; rintro e w2 ⟨rfl, hb⟩
        have HV2 := hidH (HV1.out.below hb)
        have HB2 := hidH (bThen HB1.out hb)
        have HZ2 := hidH (HZ1.out.below hb)
        clear hb HV1 HB1 HZ1
        rw [HS.out]
        go_wp2_with fail
        refine (sDeg4_any n3 _).mono ?_; rintro e w_ ⟨rfl, rfl⟩
        rw [HD.out]
        go_wp2_with fail
        refine (sIn_any n1 0 ((zs0.length : Int) - 1) _ HI1.out _).mono ?_; rintro e w_ ⟨rfl, rfl⟩
        rw [HA.out]
        go_wp2_with (refine wpList_store_row rfl 32 _ _ rfl w.heap.size _ rfl rfl 32 _ HZ2.out (seg_size _ _) rfl (by simp [Value.oneCell']) ?_)
        refine bodyPost_ret (results_segB Try.results13 _ _ w.heap.size _ _ _ rfl rfl (HZ2.out.setRow _ _)) rfl ?_
        exact ⟨_, rfl, Row.nil _ _ _ _ _ (Nat.zero_le _) (fun _ => rfl), bRow HB2.out (Nat.le_refl _) _⟩
      · have ⟨a1, a2⟩ := of_decide_eq_true ha
        have HA := hidH ha
        have HI2 := hidH (show decide ((1 : Int) ≤ n2 ∧ n2 ≤ (zs0.length : Int) - n1) = segCnt zs0 n1 n2 from rfl)
        cases hc : segCnt zs0 n1 n2
        · have HN := hidH (seg_no zs0 n1 n2 n3 (by unfold segB; rw [hs, ha, hc]; simp))
          have HNB := hidH (show segB zs0 n1 n2 n3 = false from (by unfold segB; rw [hs, ha, hc]; simp))
          rw [HN.out.1, HN.out.2, HNB.out]
          have HC := hidH hc
          clear hs hd ha hc
          go_enter Try.func13, Try.ntmps13
          go_wp2_with fail
          refine (sSmall_any _ zs0 _ _ _ HV1.out).mono ?_; rintro e w2 ⟨rfl, hb⟩
          have HV2 := hidH (HV1.out.below hb)
          have HB2 := hidH (bThen HB1.out hb)
          have HZ2 := hidH (HZ1.out.below hb)
          clear hb HV1 HB1 HZ1
          rw [HS.out]
          go_wp2_with fail
          refine (sDeg4_any n3 _).mono ?_; rintro e w_ ⟨rfl, rfl⟩
          rw [HD.out]
          go_wp2_with fail
          refine (sIn_any n1 0 ((zs0.length : Int) - 1) _ HI1.out _).mono ?_; rintro e w_ ⟨rfl, rfl⟩
          rw [HA.out]
          go_wp2_with fail
          refine (sIn_any n2 1 ((zs0.length : Int) - n1) _ HI2.out _).mono ?_; rintro e w_ ⟨rfl, rfl⟩
          rw [HC.out]
          go_wp2_with (refine wpList_store_row rfl 32 _ _ rfl w.heap.size _ rfl rfl 32 _ HZ2.out (seg_size _ _) rfl (by simp [Value.oneCell']) ?_)
          refine bodyPost_ret (results_segB Try.results13 _ _ w.heap.size _ _ _ rfl rfl (HZ2.out.setRow _ _)) rfl ?_
          exact ⟨_, rfl, Row.nil _ _ _ _ _ (Nat.zero_le _) (fun _ => rfl), bRow HB2.out (Nat.le_refl _) _⟩
        · have ⟨c1, c2⟩ := of_decide_eq_true hc
          have HC := hidH hc
          have HSZ := hidH (segZ_small zs0 n1 n2 hs ha hc)
          have HE := hidH (show segB zs0 n1 n2 n3 = runB (segZ zs0 n1 n2) n3 by unfold segB; rw [hs, ha, hc, hd, Bool.true_and, Bool.true_and, Bool.true_and, Bool.true_and])
          obtain ⟨b0, off0, cp, e, _, _, _, _, _, _⟩ := HV1.out.addr (by omega)
          injection e with e1 e2 e3
          subst e1; subst e3
          obtain ⟨k, rfl⟩ : ∃ k : Nat, n1 = (k : Int) := ⟨n1.toNat, by omega⟩
          obtain ⟨c, rfl⟩ : ∃ c : Nat, n2 = (c : Int) := ⟨n2.toNat, by omega⟩
          have HZE := hidH (show segZ zs0 (k : Int) (c : Int) = (zs0.drop k).take c by unfold segZ; rw [Int.toNat_natCast, Int.toNat_natCast])
          have HRF := hidH (fun W lo hi (h : Lies W lo hi (.slice (some ⟨b0, off0, none⟩) zs0.length cap0) zs0) => sRun_any (.slice (some ⟨b0, off0 + k, none⟩) c (cap0 - k)) (segZ zs0 k c) n3 W lo hi (by
            rw [HZE.out]
            exact (h.dropped k (zs0.length - k) (cap0 - k) (by omega) rfl rfl).taken c (by rw [List.length_drop]; omega)))
          obtain ⟨m, hkm, hmc, hmk, hkm2⟩ : ∃ m : Nat, (k : Int) + (c : Int) = (m : Int) ∧ m ≤ cap0 ∧ m - k = c ∧ k ≤ m := ⟨k + c, by omega, by omega, by omega, by omega⟩
          have hck : ¬ cap0 = k := by omega
          clear ha hc hs hd
          cases hr : runB (segZ zs0 k c) n3
          · have HN := hidH (seg_no zs0 k c n3 (by rw [HE.out, hr]))
            have HNB := hidH (show segB zs0 k c n3 = false by rw [HE.out, hr])
            rw [HN.out.1, HN.out.2, HNB.out]
            have HR := hidH hr
            clear hr
            go_enter Try.func13, Try.ntmps13
            go_wp2_with fail
            refine (sSmall_any _ zs0 _ _ _ HV1.out).mono ?_; rintro e w2 ⟨rfl, hb⟩
            have HV2 := hidH (HV1.out.below hb)
            have HB2 := hidH (bThen HB1.out hb)
            have HZ2 := hidH (HZ1.out.below hb)
            clear hb HV1 HB1 HZ1
            rw [HS.out]
            go_wp2_with fail
            refine (sDeg4_any n3 _).mono ?_; rintro e w_ ⟨rfl, rfl⟩
            rw [HD.out]
            go_wp2_with fail
            refine (sIn_any (k : Int) 0 ((zs0.length : Int) - 1) _ HI1.out _).mono ?_; rintro e w_ ⟨rfl, rfl⟩
            rw [HA.out]
            go_wp2_with fail
            refine (sIn_any (c : Int) 1 ((zs0.length : Int) - (k : Int)) _ HI2.out _).mono ?_; rintro e w_ ⟨rfl, rfl⟩
            rw [HC.out]
            go_wp2_with fail
            refine (HRF.out _ _ _ HV2.out).mono ?_; rintro e w3 ⟨u, rfl, hrr, hb⟩
            have HR3 := hidH hrr
            have HB3 := hidH (bThen HB2.out hb)
            have HZ3 := hidH (HZ2.out.below hb)
            have hsz := HZ2.out.lt
            clear hrr hb
            rw [HR.out]
            go_wp2_with (refine wpList_store_row rfl 32 _ _ rfl w.heap.size _ rfl rfl 32 _ HZ3.out (seg_size _ _) rfl (by simp [Value.oneCell']) ?_)
            refine bodyPost_ret (results_segB Try.results13 _ _ w.heap.size _ _ _ rfl rfl (HZ3.out.setRow _ _)) rfl ?_
            exact ⟨_, rfl, Row.nil _ _ _ _ _ (Nat.zero_le _) (fun _ => rfl), bRow HB3.out (Nat.le_refl _) _⟩
          · have HN := hidH (seg_yes zs0 k c n3 (by rw [HE.out, hr]))
            have HNB := hidH (show segB zs0 k c n3 = true by rw [HE.out, hr])
            have HQ := hidH (show runA (segZ zs0 k c) n3 = interA (segZ zs0 k c) by
              have h := hr
              unfold runB at h
              rw [Bool.and_eq_true] at h
              exact if_pos (of_decide_eq_true h.1))
            rw [HN.out.1, HN.out.2, HNB.out]
            have HR := hidH hr
            clear hr
            go_enter Try.func13, Try.ntmps13
            go_wp2_with fail
            refine (sSmall_any _ zs0 _ _ _ HV1.out).mono ?_; rintro e w2 ⟨rfl, hb⟩
            have HV2 := hidH (HV1.out.below hb)
            have HB2 := hidH (bThen HB1.out hb)
            have HZ2 := hidH (HZ1.out.below hb)
            clear hb HV1 HB1 HZ1
            rw [HS.out]
            go_wp2_with fail
            refine (sDeg4_any n3 _).mono ?_; rintro e w_ ⟨rfl, rfl⟩
            rw [HD.out]
            go_wp2_with fail
            refine (sIn_any (k : Int) 0 ((zs0.length : Int) - 1) _ HI1.out _).mono ?_; rintro e w_ ⟨rfl, rfl⟩
            rw [HA.out]
            go_wp2_with fail
            refine (sIn_any (c : Int) 1 ((zs0.length : Int) - (k : Int)) _ HI2.out _).mono ?_; rintro e w_ ⟨rfl, rfl⟩
            rw [HC.out]
            go_wp2_with fail
            refine (HRF.out _ _ _ HV2.out).mono ?_; rintro e w3 ⟨u, rfl, hrr, hb⟩
            have HR3 := hidH hrr
            have HB3 := hidH (bThen HB2.out hb)
            have HZ3 := hidH (HZ2.out.below hb)
            have hsz := HZ2.out.lt
            clear hrr hb
            rw [HR.out]
            rw [HQ.out] at HR3
            generalize interA (segZ zs0 k c) = ps at *
            obtain ⟨pa, pc, rfl⟩ := HR3.out.some
            have SO := hidH (seg_one (c : Int) pa ps.length pc)
            have SZ := hidH (seg_size (c : Int) (.slice pa ps.length pc))
            go_wp2_with (refine wpList_store_row rfl 32 _ _ rfl w.heap.size _ rfl rfl 32 _ HZ3.out SZ.out rfl SO.out ?_)
            refine bodyPost_ret (results_segB Try.results13 _ _ w.heap.size _ _ _ rfl rfl (HZ3.out.setRow _ _)) rfl ?_
            exact ⟨_, rfl, (HR3.out.apart (Apart.of_onto (lo := w.heap.size) (hi := w.heap.size + 1) (ontoRow w.heap.size w3 _) (Nat.le_refl _) (Nat.lt_succ_self _)) (.inr hsz)).mono (by omega) (by simp), bRow HB3.out (Nat.le_refl _) _⟩
end Go.Proofs.Ytgdfbnedaalflaa
