/-
  SkewEngine of the model, at every list of texts. Condition: texts that fit in memory.
-/
import Derived.Test.YtffmhcahiabicaaDoorEngR
namespace Go.Proofs.YtffmhcahiabicaaDoor
set_option maxRecDepth 4000
set_option linter.unusedVariables false
open Go.RowKit
theorem fieldCols (v : Value) (w : World) : (Instr.field 26 (.agg #[v]) 0).run Tryd.prog w = .ok v w := by
  simp [Instr.field, go_sem, asAgg]
set_option maxHeartbeats 4000000 in
theorem l3Skew_any (n : Nat) (v : Value) (cs : List ByteArray) (w : World) (lo hi : Nat) (hv : LiesS w lo hi v cs) (h0 : 0 < cs.length) (hn : cs.length ≤ 1048576) (hz : ∀ z ∈ cs, colN n z) : Calls Tryd.prog 40 #[.agg #[v]] w (NewEng (askewL difS cs) w) := by
  have HL := hidH hv
  have HLN := hidH (fun k => turnsL_length (backL difS) (backL_length difS) cs k)
  have HAL := hidH (askewL_length difS cs)
  have HAT := hidH (fun i (h : i < cs.length) => askewL_at difS cs i h)
  have HCP := hidH (fun W (h : LiesS W lo hi v cs) => l3Copy_any v cs W lo hi h h0 hn)
  have HT := hidH hv.top
  have HMB := hidH (fun t ht nn hnn W (h : LiesS W 0 w.heap.size v cs) => l3ManyBack_any n t v cs W 0 w.heap.size h h0 hn hz ht nn hnn)
  have HMS := hidH (fun k x (h : (askewL difS cs)[k]? = some x) => mixL_set (askewL difS cs) cs (askewL_length difS cs) k x h)
  have HMA := hidH (mixL_all (askewL difS cs) cs (askewL_length difS cs))
  have HML := hidH (fun k => mixL_length (askewL difS cs) cs (askewL_length difS cs) k)
  have HM0 := hidH (mixL_zero (askewL difS cs) cs)
  obtain ⟨b, off, cap, rfl, hlc, hcm, hlo, hhi, hbw, hcell⟩ := hv.addr h0
  have ⟨t1, t2, t3, t4⟩ := two_boxes w (.slice (some ⟨b, off, none⟩) cs.length cap)
  have BB := hidH t1
  have E1 := hidH t2
  have E2 := hidH t3
  have S2 := hidH t4
  have cA := t2.cell
  unfold maxLen at hcm
  clear hv hz hcell t1 t2 t3 t4
  generalize askewL difS cs = ak at *
  go_enter Tryd.func40, Tryd.ntmps40
  go_wp2_with fail
  refine (HCP.out _ (HL.out.below BB.out)).mono ?_; rintro e w1 ⟨u, rfl, hr, hb⟩
  obtain ⟨b2, cap2, rfl, hlc2, hcm2, hlo2, hhi2, hB2⟩ := hr.blk (by omega)
  have hs1 := hb.size
  have HB1 := hidH (bThen BB.out hb)
  have F1 := hidH (E1.out.below hb)
  have F2 := hidH (E2.out.below hb)
  rw [S2.out] at hlo2 hs1
  have G1 := hidH (F1.out.alloc (.cells #[.slice (some ⟨b2, 0, none⟩) cs.length cap2] 26))
  have G2 := hidH (F2.out.alloc (.cells #[.slice (some ⟨b2, 0, none⟩) cs.length cap2] 26))
  have G3 := hidH (EngAt.fresh w1 (.slice (some ⟨b2, 0, none⟩) cs.length cap2))
  have HK0 := hidH (hB2.below (belowN' w1 (.slice (some ⟨b2, 0, none⟩) cs.length cap2)))
  have HB1' := hidH (bMore HB1.out (.cells #[.slice (some ⟨b2, 0, none⟩) cs.length cap2] 26))
  have hcA := G1.out.cell
  have hcO := G3.out.cell
  have HS3 := hidH (show (w1.alloc (.cells #[.slice (some ⟨b2, 0, none⟩) cs.length cap2] 26)).heap.size = w1.heap.size + 1 by simp)
  clear hr hb hB2 cA
  unfold maxLen at hcm2
  go_wp2
  go_loopw [4] (fun i wr => ∃ k : Nat, k ≤ cs.length ∧ i = .int .i64 k ∧ BlkS wr b2 (mixL ak cs k) ∧ Onto b2 (w1.alloc (.cells #[.slice (some ⟨b2, 0, none⟩) cs.length cap2] 26)) wr) (fun i _ => cs.length - (intOf i).toNat)
  case atStart => exact ⟨0, Nat.zero_le _, rfl, by rw [HM0.out]; exact HK0.out, Onto.refl _ _⟩
  case round =>
    obtain ⟨k, hk, rfl, hB, ho⟩ := hrel
    have HB := hidH hB
    have HO := hidH ho
    have cA := (G1.out.onto ho (by omega)).cell
    have cO := (G3.out.onto ho (by omega)).cell
    clear hB ho hcA hcO
    by_cases hlt : k < cs.length
    · have HAA := hidH ((G1.out.onto HO.out (by omega)))
      have HOO := hidH ((G3.out.onto HO.out (by omega)))
      obtain ⟨x, hx⟩ := get_lt ak k (by rw [HAL.out]; exact hlt)
      have HST := hidH (HMS.out k x hx)
      have HXT := hidH (show (turnsL (backL difS) (k / 2) cs)[k]? = some x by rw [← HAT.out k hlt]; exact hx)
      obtain ⟨o1, ho1⟩ := get_lt (mixL ak cs k) k (by rw [HML.out]; exact hlt)
      have C1 := hidH (HB.out.2 k o1 ho1)
      have HBW := hidH (show b2 < wr.heap.size from HB.out.1)
      clear hx ho1
      have HLW := hidH ((HT.out.below HB1'.out).apart (Apart.of_onto (lo := b2) (hi := b2 + 1) HO.out (Nat.le_refl _) (Nat.lt_succ_self _)) (.inl (by omega)))
      have hfl : ∀ v W, (Instr.field 26 (.agg #[v]) 0).run Tryd.prog W = .ok v W := fieldCols
      go_wp2_with fail
      go_region_with
        ((go_at_call 82; (with_reducible refine (HMB.out (k / 2) (by omega) _ ?hnn _ (HLW.out.below ((Below.refl _ _).drew))).mono ?_); (case hnn => rw [IntWalk.i64_in ((k : Int) / 2) (by omega), IntWalk.i64_in (-((k : Int) / 2)) (by omega)]; omega); rintro e w4 ⟨u4, rfl, hr4, hb4⟩; (have HBD := hidH (bDrew' hb4)); (have HB2 := hidH (HB.out.below HBD.out)); (have hq1 : w4.cell? ⟨b2, k, none⟩ = some (.string o1) := by rw [HBD.out.cell (p := ⟨b2, k, none⟩) HBW.out]; exact C1.out.1); (have hq2 : w4.frozen? ⟨b2, k, none⟩ = false := by rw [HBD.out.frozen (p := ⟨b2, k, none⟩) HBW.out]; exact C1.out.2); (have cA2 := (HAA.out.below HBD.out).cell); (have cO2 := (HOO.out.below HBD.out).cell); (obtain ⟨b4, cap4, hv4, hlc4, hcm4, hlo4, hhi4, hB4⟩ := hr4.blk (by rw [HLN.out]; exact h0)); (have hc4 := (hB4.2 k x HXT.out).1); rw [HLN.out] at hv4; subst hv4; clear hb4 hr4 hB4 hlc4))
      all_goals
        go_wp2
        go_roundw
        case rel =>
          refine ⟨k + 1, by omega, by go_num, ?_, (HO.out.trans (Onto.of_below HBD.out)).trans (Onto.setCell b2 k _ _)⟩
          rw [← HST.out]
          exact HB2.out.set k _
        case measure => simp [intOf] <;> omega
    · obtain rfl : k = cs.length := by omega
      have K2 := hidH (G2.out.onto HO.out (by omega))
      have K3 := hidH (G3.out.onto HO.out (by omega))
      have SZ := hidH (eng_size (.slice (some ⟨b2, 0, none⟩) cs.length cap2))
      have SO := hidH (slice_one (some ⟨b2, 0, none⟩) cs.length cap2)
      have HFIN : Hid (BlkS wr b2 ak) := hidH (by rw [← HMA.out]; exact HB.out)
      have HBF := hidH (HB1'.out.trans (HO.out.below (B := w.heap.size) (by omega) (by rw [HS3.out]; omega)))
      go_wp2_with (first | (refine wpList_load_row rfl 26 _ rfl w1.heap.size rfl 26 _ (0, 0) _ K3.out Tryd.underlying26 rfl SZ.out ?_) | (refine wpList_store_row rfl 26 _ _ rfl (w.heap.size + 1) #[.slice (some ⟨b2, 0, none⟩) cs.length cap2] rfl rfl 26 _ K2.out SZ.out rfl SO.out ?_))
      refine bodyPost_ret (results_eng Tryd.results40 _ _ (w.heap.size + 1) _ rfl (K2.out.setRow _)) rfl ?_
      have hsw := HFIN.out.1
      have HAP := HFIN.out.apart (Apart.of_onto (lo := w.heap.size + 1) (hi := w.heap.size + 2) (onto_setRow (w.heap.size + 1) wr #[.slice (some ⟨b2, 0, none⟩) cs.length cap2]) (by omega) (by omega)) (.inr hlo2)
      exact ⟨_, rfl, HAP.row (by omega) HAP.1 (by rw [HAL.out]; exact hlc2) (by unfold maxLen; omega) HAL.out.symm, bRow HBF.out (by omega) _⟩
theorem sSkewEngine_any (v : Value) (cs : List ByteArray) (w : World) (lo hi : Nat) (hv : LiesS w lo hi v cs) (hm : ∀ c ∈ cs, c.size ≤ 9223372036854775807) : Calls Tryd.prog 11 #[.agg #[v]] w (NewEngB (askA cs) (engOk cs) w) := by
  have HL := hidH hv
  have ⟨t1, t2, t3, t4⟩ := two_boxes w v
  have BB := hidH t1
  have E1 := hidH t2
  have E2 := hidH t3
  have S2 := hidH t4
  have cA := t2.cell
  cases hk : engOk cs
  · have HV := hidH (fun W (h : LiesS W lo hi v cs) => sEngValid_is false v cs hk W lo hi h hm)
    have HX := hidH (askA_no cs hk)
    have SZ := hidH (eng_size (.slice none 0 0))
    obtain ⟨a, cap, rfl⟩ := hv.some
    clear hv hm hk t1 t2 t3 t4
    go_enter Tryd.func11, Tryd.ntmps11
    go_wp2_with fail
    refine (HV.out _ (HL.out.below BB.out)).mono ?_; rintro e w1 ⟨rfl, hb⟩
    have HB1 := hidH (bThen BB.out hb)
    have F2 := hidH (E2.out.below hb)
    clear hb cA
    go_wp2_with (refine wpList_store_row rfl 26 _ _ rfl (w.heap.size + 1) #[.slice none 0 0] rfl rfl 26 _ F2.out SZ.out rfl nil_one ?_)
    refine bodyPost_ret (results_engB Tryd.results11 _ _ (w.heap.size + 1) _ (.bool false) rfl rfl (F2.out.setRow _)) rfl ?_
    rw [HX.out]
    exact ⟨_, rfl, RowS.nil _ _ _ _ _ (Nat.zero_le _) (fun _ => rfl), bRow HB1.out (by omega) _⟩
  · have HV := hidH (fun W (h : LiesS W lo hi v cs) => sEngValid_is true v cs hk W lo hi h hm)
    have HX := hidH (askA_yes cs hk)
    have ⟨h1, h7, n0, _, _, hall⟩ := engOk_parts cs hk
    have HUN := hidH (fun W (h : LiesS W lo hi v cs) => l3Skew_any n0 v cs W lo hi h (by omega) (by omega) hall)
    rw [← HX.out] at HUN
    obtain ⟨a, cap, rfl⟩ := hv.some
    clear hv hm hk t1 t2 t3 t4 hall HX
    generalize askA cs = rs at *
    go_enter Tryd.func11, Tryd.ntmps11
    go_wp2_with fail
    refine (HV.out _ (HL.out.below BB.out)).mono ?_; rintro e w1 ⟨rfl, hb⟩
    have HB1 := hidH (bThen BB.out hb)
    have F1 := hidH (E1.out.below hb)
    have F2 := hidH (E2.out.below hb)
    have hs1 := hb.size
    rw [S2.out] at hs1
    clear hb cA
    have cA := F1.out.cell
    go_wp2_with fail
    refine (HUN.out _ (HL.out.below HB1.out)).mono ?_; rintro e w2 ⟨u, rfl, hr, hb⟩
    have HB2 := hidH (bThen HB1.out hb)
    have K2 := hidH (F2.out.below hb)
    have hs2 := hb.size
    have HR := hidH hr
    obtain ⟨a2, cap2, rfl⟩ := hr.some
    clear hr hb cA
    have SZ := hidH (eng_size (.slice a2 rs.length cap2))
    have SO := hidH (slice_one a2 rs.length cap2)
    go_wp2_with (refine wpList_store_row rfl 26 _ _ rfl (w.heap.size + 1) #[.slice a2 rs.length cap2] rfl rfl 26 _ K2.out SZ.out rfl SO.out ?_)
    refine bodyPost_ret (results_engB Tryd.results11 _ _ (w.heap.size + 1) _ (.bool true) rfl rfl (K2.out.setRow _)) rfl ?_
    exact ⟨_, rfl, (HR.out.apart (Apart.of_onto (lo := w.heap.size + 1) (hi := w.heap.size + 2) (onto_setRow (w.heap.size + 1) _ _) (by omega) (by omega)) (.inr (by omega))).mono (by omega) (by simp), bRow HB2.out (by omega) _⟩
end Go.Proofs.YtffmhcahiabicaaDoor
