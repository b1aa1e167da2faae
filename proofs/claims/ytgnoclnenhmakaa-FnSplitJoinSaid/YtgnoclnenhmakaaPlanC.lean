/-
  SegmentOf: the program, at every argument. No conditions but that slices fit in memory.
  SegmentOf: the model, at every argument. No conditions but that slices fit in memory.
-/
import Derived.Test.YtgnoclnenhmakaaPlanBox
namespace Go.Proofs.Ytgnoclnenhmakaa
set_option maxRecDepth 4000
open Go.RowKit
/-- The index of an entry. -/
def segAt (zs : List Int) (f : Int) : Bool := decide (0 ≤ f ∧ f < (zs.length : Int))
/-- A number of entries from there on. -/
def segCnt (zs : List Int) (f c : Int) : Bool := decide (1 ≤ c ∧ c ≤ (zs.length : Int) - f)
/-- The entries of a segment. -/
def segZ (zs : List Int) (f c : Int) : List Int := (zs.drop f.toNat).take c.toNat
def segB (zs : List Int) (f c d : Int) : Bool := smallOk zs && (segAt zs f && (segCnt zs f c && (degOk d && runB (segZ zs f c) d)))
/-- The count and the polynomial of a segment; nothing if there is none. -/
def segC (zs : List Int) (f c d : Int) : Int := if segB zs f c d then c else 0
def segP (zs : List Int) (f c d : Int) : List Int := if segB zs f c d then interA (segZ zs f c) else []
theorem segP_len (zs : List Int) (f c d : Int) : (segP zs f c d).length ≤ 1048576 := by unfold segP; split <;> first | exact interA_len _ | simp
theorem seg_no (zs : List Int) (f c d : Int) (h : segB zs f c d = false) : segC zs f c d = 0 ∧ segP zs f c d = [] := by
  unfold segC segP
  rw [h]; exact ⟨rfl, rfl⟩
theorem seg_yes (zs : List Int) (f c d : Int) (h : segB zs f c d = true) : segC zs f c d = c ∧ segP zs f c d = interA (segZ zs f c) := by
  unfold segC segP
  rw [h]; exact ⟨rfl, rfl⟩
/-- The polynomial of a run of the program. -/
def runQ (zs : List Int) (d : Int) : List Int := if cleanB zs d then interA zs else []
theorem runOf_any (v : Value) (zs : List Int) (d : Int) (w : World) (lo hi : Nat) (hv : Lies w lo hi v zs) : Calls Try.prog 48 #[v, .int .i64 d] w (NewRowB (runQ zs d) (cleanB zs d && interB zs) w) := by
  have HV := hidH hv
  clear hv
  cases hc : cleanB zs d
  · have HQ := hidH (show runQ zs d = [] by rw [runQ, hc]; rfl)
    have HC := hidH hc
    rw [HQ.out, Bool.false_and]
    clear hc
    go_enter Try.func48, Try.ntmps48
    go_wp2_with fail
    refine (clean_any v zs d _ _ _ HV.out).mono ?_; rintro e w1 ⟨rfl, hb⟩
    rw [HC.out]
    have HB := hidH hb
    clear hb
    go_wp2_with fail
    go_ret2
    exact ⟨_, rfl, Row.nil _ _ _ _ _ (Nat.zero_le _) (fun _ => rfl), HB.out⟩
  · have HQ := hidH (show runQ zs d = interA zs by rw [runQ, hc]; rfl)
    have HC := hidH hc
    rw [HQ.out, Bool.true_and]
    clear hc
    go_enter Try.func48, Try.ntmps48
    go_wp2_with fail
    refine (clean_any v zs d _ _ _ HV.out).mono ?_; rintro e w1 ⟨rfl, hb⟩
    rw [HC.out]
    have HB := hidH hb
    have HV1 := hidH (HV.out.below hb)
    clear hb
    go_wp2_with fail
    refine (inter_any v zs _ _ _ HV1.out).mono ?_; rintro e w2 ⟨u, rfl, hr, hb⟩
    have HR := hidH hr
    have HB2 := hidH (HB.out.trans (hb.mono HB.out.size))
    have hsz := HB.out.size
    clear hr hb
    generalize interB zs = r at *
    go_wp2_with fail
    go_ret2
    exact ⟨_, rfl, HR.out.mono hsz (Nat.le_refl _), HB2.out⟩
theorem run_clean (zs : List Int) (d : Int) (h : smallOk zs = true) : (cleanB zs d && interB zs) = (degOk d && runB zs d) := by
  have hg := (least_ge zs).2.2.1 (small_tab zs h)
  rw [cleanB_eq, decide_eq_true hg, Bool.true_and]
  unfold runB
  rw [Bool.and_assoc]
theorem segZ_small (zs : List Int) (f c : Int) (h : smallOk zs = true) (ha : segAt zs f = true) (hc : segCnt zs f c = true) : smallOk (segZ zs f c) = true := by
  have ⟨a1, a2⟩ := of_decide_eq_true ha
  have ⟨c1, c2⟩ := of_decide_eq_true hc
  exact small_take _ (small_drop zs h f.toNat (by omega)) c.toNat (by omega)
set_option maxHeartbeats 1600000 in
theorem segOf_any (v0 : Value) (zs0 : List Int) (n1 n2 n3 : Int) (w : World) (lo0 hi0 : Nat) (hv0 : Lies w lo0 hi0 v0 zs0) : Calls Try.prog 18 #[v0, .int .i64 n1, .int .i64 n2, .int .i64 n3] w (NewSegB (segC zs0 n1 n2 n3) (segP zs0 n1 n2 n3) (segB zs0 n1 n2 n3) w) := by
  have HB1 := hidH (bMore (Below.refl w.heap.size w) (.cells #[.int .i64 0, .slice none 0 0] 39))
  have HV1 := hidH (hv0.below HB1.out)
  have HZ1 := hidH (SegAt.fresh w 0 (.slice none 0 0))
  obtain ⟨a0, cap0, rfl⟩ := hv0.some
  obtain ⟨_, _, e, hlc0, hcm0, _, _⟩ := hv0
  injection e with e1 e2 e3
  subst e1; subst e3
  unfold maxLen at hcm0
  have hsl : smallOk zs0 = true → 1 ≤ zs0.length ∧ zs0.length ≤ 60 := fun h => ⟨((small_iff zs0).1 h).1, ((small_iff zs0).1 h).2.1⟩
  cases hs : smallOk zs0
  · have HN := hidH (seg_no zs0 n1 n2 n3 (by unfold segB; rw [hs]; rfl))
    have HNB := hidH (show segB zs0 n1 n2 n3 = false from (by unfold segB; rw [hs]; rfl))
    rw [HN.out.1, HN.out.2, HNB.out]
    have HS := hidH hs
    clear hs hsl
    go_enter Try.func18, Try.ntmps18
    go_wp2_with fail
    refine (small_any _ zs0 _ _ _ HV1.out).mono ?_; rintro e w2 ⟨rfl, hb⟩
    have HV2 := hidH (HV1.out.below hb)
    have HB2 := hidH (bThen HB1.out hb)
    have HZ2 := hidH (HZ1.out.below hb)
    clear hb HV1 HB1 HZ1
    rw [HS.out]
    go_wp2_with (refine wpList_store_row rfl 39 _ _ rfl w.heap.size _ rfl rfl 39 _ HZ2.out (seg_size _ _) rfl (by simp [Value.oneCell']) ?_)
    refine bodyPost_ret (results_segB Try.results18 _ _ w.heap.size _ _ _ rfl rfl (HZ2.out.setRow _ _)) rfl ?_
    exact ⟨_, rfl, Row.nil _ _ _ _ _ (Nat.zero_le _) (fun _ => rfl), bRow HB2.out (Nat.le_refl _) _⟩
  · have ⟨hl1, hl2⟩ := hsl hs
    have HS := hidH hs
    clear hsl
    cases ha : segAt zs0 n1
    · have HN := hidH (seg_no zs0 n1 n2 n3 (by unfold segB; rw [hs, ha]; rfl))
      have HNB := hidH (show segB zs0 n1 n2 n3 = false from (by unfold segB; rw [hs, ha]; rfl))
      rw [HN.out.1, HN.out.2, HNB.out]
      have hcc := of_decide_eq_false ha
      clear hs ha
      rcases (show n1 < 0 ∨ (0 ≤ n1 ∧ (zs0.length : Int) ≤ n1) by omega) with h | ⟨h, h'⟩
      · clear hcc
        go_enter Try.func18, Try.ntmps18
        go_wp2_with fail
        refine (small_any _ zs0 _ _ _ HV1.out).mono ?_; rintro e w2 ⟨rfl, hb⟩
        have HV2 := hidH (HV1.out.below hb)
        have HB2 := hidH (bThen HB1.out hb)
        have HZ2 := hidH (HZ1.out.below hb)
        clear hb HV1 HB1 HZ1
        rw [HS.out]
        go_wp2_with (refine wpList_store_row rfl 39 _ _ rfl w.heap.size _ rfl rfl 39 _ HZ2.out (seg_size _ _) rfl (by simp [Value.oneCell']) ?_)
        refine bodyPost_ret (results_segB Try.results18 _ _ w.heap.size _ _ _ rfl rfl (HZ2.out.setRow _ _)) rfl ?_
        exact ⟨_, rfl, Row.nil _ _ _ _ _ (Nat.zero_le _) (fun _ => rfl), bRow HB2.out (Nat.le_refl _) _⟩
      · clear hcc
        go_enter Try.func18, Try.ntmps18
        go_wp2_with fail
        refine (small_any _ zs0 _ _ _ HV1.out).mono ?_; rintro e w2 ⟨rfl, hb⟩
        have HV2 := hidH (HV1.out.below hb)
        have HB2 := hidH (bThen HB1.out hb)
        have HZ2 := hidH (HZ1.out.below hb)
        clear hb HV1 HB1 HZ1
        rw [HS.out]
        go_wp2_with (refine wpList_store_row rfl 39 _ _ rfl w.heap.size _ rfl rfl 39 _ HZ2.out (seg_size _ _) rfl (by simp [Value.oneCell']) ?_)
        refine bodyPost_ret (results_segB Try.results18 _ _ w.heap.size _ _ _ rfl rfl (HZ2.out.setRow _ _)) rfl ?_
        exact ⟨_, rfl, Row.nil _ _ _ _ _ (Nat.zero_le _) (fun _ => rfl), bRow HB2.out (Nat.le_refl _) _⟩
    · have ⟨a1, a2⟩ := of_decide_eq_true ha
      have HA := hidH ha
      cases hc : segCnt zs0 n1 n2
      · have HN := hidH (seg_no zs0 n1 n2 n3 (by unfold segB; rw [hs, ha, hc]; rfl))
        have HNB := hidH (show segB zs0 n1 n2 n3 = false from (by unfold segB; rw [hs, ha, hc]; rfl))
        rw [HN.out.1, HN.out.2, HNB.out]
        have hcc := of_decide_eq_false hc
        clear hs ha hc
        rcases (show n2 < 1 ∨ (1 ≤ n2 ∧ (zs0.length : Int) - n1 < n2) by omega) with h | ⟨h, h'⟩
        · clear hcc
          go_enter Try.func18, Try.ntmps18
          go_wp2_with fail
          refine (small_any _ zs0 _ _ _ HV1.out).mono ?_; rintro e w2 ⟨rfl, hb⟩
          have HV2 := hidH (HV1.out.below hb)
          have HB2 := hidH (bThen HB1.out hb)
          have HZ2 := hidH (HZ1.out.below hb)
          clear hb HV1 HB1 HZ1
          rw [HS.out]
          go_wp2_with (refine wpList_store_row rfl 39 _ _ rfl w.heap.size _ rfl rfl 39 _ HZ2.out (seg_size _ _) rfl (by simp [Value.oneCell']) ?_)
          refine bodyPost_ret (results_segB Try.results18 _ _ w.heap.size _ _ _ rfl rfl (HZ2.out.setRow _ _)) rfl ?_
          exact ⟨_, rfl, Row.nil _ _ _ _ _ (Nat.zero_le _) (fun _ => rfl), bRow HB2.out (Nat.le_refl _) _⟩
        · clear hcc
          go_enter Try.func18, Try.ntmps18
          go_wp2_with fail
          refine (small_any _ zs0 _ _ _ HV1.out).mono ?_; rintro e w2 ⟨rfl, hb⟩
          have HV2 := hidH (HV1.out.below hb)
          have HB2 := hidH (bThen HB1.out hb)
          have HZ2 := hidH (HZ1.out.below hb)
          clear hb HV1 HB1 HZ1
          rw [HS.out]
          go_wp2_with (refine wpList_store_row rfl 39 _ _ rfl w.heap.size _ rfl rfl 39 _ HZ2.out (seg_size _ _) rfl (by simp [Value.oneCell']) ?_)
          refine bodyPost_ret (results_segB Try.results18 _ _ w.heap.size _ _ _ rfl rfl (HZ2.out.setRow _ _)) rfl ?_
          exact ⟨_, rfl, Row.nil _ _ _ _ _ (Nat.zero_le _) (fun _ => rfl), bRow HB2.out (Nat.le_refl _) _⟩
      · have ⟨c1, c2⟩ := of_decide_eq_true hc
        have HC := hidH hc
        have HSZ := hidH (segZ_small zs0 n1 n2 hs ha hc)
        have HRC := hidH (run_clean (segZ zs0 n1 n2) n3 HSZ.out)
        have HE := hidH (show segB zs0 n1 n2 n3 = (degOk n3 && runB (segZ zs0 n1 n2) n3) by unfold segB; rw [hs, ha, hc, Bool.true_and, Bool.true_and, Bool.true_and])
        obtain ⟨b0, off0, cp, e, _, _, _, _, _, _⟩ := HV1.out.addr (by omega)
        injection e with e1 e2 e3
        subst e1; subst e3
        obtain ⟨k, rfl⟩ : ∃ k : Nat, n1 = (k : Int) := ⟨n1.toNat, by omega⟩
        obtain ⟨c, rfl⟩ : ∃ c : Nat, n2 = (c : Int) := ⟨n2.toNat, by omega⟩
        have HZE := hidH (show segZ zs0 (k : Int) (c : Int) = (zs0.drop k).take c by unfold segZ; rw [Int.toNat_natCast, Int.toNat_natCast])
        have HRF := hidH (fun W lo hi (h : Lies W lo hi (.slice (some ⟨b0, off0, none⟩) zs0.length cap0) zs0) => runOf_any (.slice (some ⟨b0, off0 + k, none⟩) c (cap0 - k)) (segZ zs0 k c) n3 W lo hi (by
          rw [HZE.out]
          exact (h.dropped k (zs0.length - k) (cap0 - k) (by omega) rfl rfl).taken c (by rw [List.length_drop]; omega)))
        obtain ⟨m, hkm, hmc, hmk, hkm2⟩ : ∃ m : Nat, (k : Int) + (c : Int) = (m : Int) ∧ m ≤ cap0 ∧ m - k = c ∧ k ≤ m := ⟨k + c, by omega, by omega, by omega, by omega⟩
        have hck : ¬ cap0 = k := by omega
        clear ha hc hs
        cases hr : (degOk n3 && runB (segZ zs0 k c) n3)
        · have HN := hidH (seg_no zs0 k c n3 (by rw [HE.out, hr]))
          have HNB := hidH (show segB zs0 k c n3 = false by rw [HE.out, hr])
          rw [HN.out.1, HN.out.2, HNB.out]
          have HR := hidH hr
          clear hr
          go_enter Try.func18, Try.ntmps18
          go_wp2_with fail
          refine (small_any _ zs0 _ _ _ HV1.out).mono ?_; rintro e w2 ⟨rfl, hb⟩
          have HV2 := hidH (HV1.out.below hb)
          have HB2 := hidH (bThen HB1.out hb)
          have HZ2 := hidH (HZ1.out.below hb)
          clear hb HV1 HB1 HZ1
          rw [HS.out]
          go_wp2_with fail
          refine (HRF.out _ _ _ HV2.out).mono ?_; rintro e w3 ⟨u, rfl, hrr, hb⟩
          have HR3 := hidH hrr
          have HB3 := hidH (bThen HB2.out hb)
          have HZ3 := hidH (HZ2.out.below hb)
          have hsz := HZ2.out.lt
          clear hrr hb
          rw [HRC.out, HR.out]
          go_wp2_with (refine wpList_store_row rfl 39 _ _ rfl w.heap.size _ rfl rfl 39 _ HZ3.out (seg_size _ _) rfl (by simp [Value.oneCell']) ?_)
          refine bodyPost_ret (results_segB Try.results18 _ _ w.heap.size _ _ _ rfl rfl (HZ3.out.setRow _ _)) rfl ?_
          exact ⟨_, rfl, Row.nil _ _ _ _ _ (Nat.zero_le _) (fun _ => rfl), bRow HB3.out (Nat.le_refl _) _⟩
        · have HN := hidH (seg_yes zs0 k c n3 (by rw [HE.out, hr]))
          have HNB := hidH (show segB zs0 k c n3 = true by rw [HE.out, hr])
          have HQ := hidH (show runQ (segZ zs0 k c) n3 = interA (segZ zs0 k c) by
            have h := HRC.out; rw [hr] at h
            rw [Bool.and_eq_true] at h
            rw [runQ, h.1]; rfl)
          rw [HN.out.1, HN.out.2, HNB.out]
          have HR := hidH hr
          clear hr
          go_enter Try.func18, Try.ntmps18
          go_wp2_with fail
          refine (small_any _ zs0 _ _ _ HV1.out).mono ?_; rintro e w2 ⟨rfl, hb⟩
          have HV2 := hidH (HV1.out.below hb)
          have HB2 := hidH (bThen HB1.out hb)
          have HZ2 := hidH (HZ1.out.below hb)
          clear hb HV1 HB1 HZ1
          rw [HS.out]
          go_wp2_with fail
          refine (HRF.out _ _ _ HV2.out).mono ?_; rintro e w3 ⟨u, rfl, hrr, hb⟩
          have HR3 := hidH hrr
          have HB3 := hidH (bThen HB2.out hb)
          have HZ3 := hidH (HZ2.out.below hb)
          have hsz := HZ2.out.lt
          clear hrr hb
          rw [HRC.out, HR.out]
          rw [HQ.out] at HR3
          generalize interA (segZ zs0 k c) = ps at *
          obtain ⟨pa, pc, rfl⟩ := HR3.out.some
          have SO := hidH (seg_one (c : Int) pa ps.length pc)
          have SZ := hidH (seg_size (c : Int) (.slice pa ps.length pc))
          go_wp2_with (refine wpList_store_row rfl 39 _ _ rfl w.heap.size _ rfl rfl 39 _ HZ3.out SZ.out rfl SO.out ?_)
          refine bodyPost_ret (results_segB Try.results18 _ _ w.heap.size _ _ _ rfl rfl (HZ3.out.setRow _ _)) rfl ?_
          exact ⟨_, rfl, (HR3.out.apart (Apart.of_onto (lo := w.heap.size) (hi := w.heap.size + 1) (ontoRow w.heap.size w3 _) (Nat.le_refl _) (Nat.lt_succ_self _)) (.inr hsz)).mono (by omega) (by simp), bRow HB3.out (Nat.le_refl _) _⟩
end Go.Proofs.Ytgnoclnenhmakaa
namespace Go.Proofs.Ytgnoclnenhmakaa
set_option maxRecDepth 4000
open Go.RowKit
end Go.Proofs.Ytgnoclnenhmakaa
