/-
  WidenEngine of the model, at every list of texts. Condition: texts that fit in memory.
-/
import Derived.Test.YtliakbgigkajnaaDoorEngJ
import Derived.Test.YtliakbgigkajnaaDoorEngE
namespace Go.Proofs.YtliakbgigkajnaaDoor
set_option maxRecDepth 4000
set_option linter.unusedVariables false
open Go.RowKit
set_option maxHeartbeats 2000000 in
theorem sWidenEngine_any (v : Value) (cs : List ByteArray) (wi : Int) (w : World) (lo hi : Nat) (hv : LiesS w lo hi v cs) (hm : ∀ c ∈ cs, c.size ≤ 9223372036854775807) : Calls Tryd.prog 27 #[.agg #[v], .int .i64 wi] w (NewEngB (widL cs wi) (widB cs wi) w) := by
  have HL := hidH hv
  have ⟨t1, t2, t3, t4⟩ := two_boxes w v
  have BB := hidH t1
  have E1 := hidH t2
  have E2 := hidH t3
  have S2 := hidH t4
  have cA := t2.cell
  have SZ0 := hidH (eng_size (.slice none 0 0))
  have HN1 := hidH (widL_no cs wi)
  have HN2 := hidH (widB_no cs wi)
  have HY1 := hidH (widL_yes cs wi)
  have HY2 := hidH (widB_yes cs wi)
  generalize widL cs wi = rs at *
  generalize widB cs wi = rb at *
  cases hk : engOk cs
  · obtain rfl := HN1.out hk
    obtain rfl := HN2.out hk
    have HV := hidH (fun W (h : LiesS W lo hi v cs) => sEngValid_is false v cs hk W lo hi h hm)
    obtain ⟨a, cap, rfl⟩ := hv.some
    clear hv hm hk t1 t2 t3 t4
    go_enter Tryd.func27, Tryd.ntmps27
    go_wp2_with fail
    refine (HV.out _ (HL.out.below BB.out)).mono ?_; rintro e w1 ⟨rfl, hb⟩
    have HB1 := hidH (bThen BB.out hb)
    have F2 := hidH (E2.out.below hb)
    clear hb cA
    go_wp2_with (refine wpList_store_row rfl 27 _ _ rfl (w.heap.size + 1) #[.slice none 0 0] rfl rfl 27 _ F2.out SZ0.out rfl nil_one ?_)
    refine bodyPost_ret (results_engB Tryd.results27 _ _ (w.heap.size + 1) _ (.bool false) rfl rfl (F2.out.setRow _)) rfl ?_
    exact ⟨_, rfl, RowS.nil _ _ _ _ _ (Nat.zero_le _) (fun _ => rfl), bRow HB1.out (by omega) _⟩
  · obtain rfl := HY1.out hk
    obtain rfl := HY2.out hk
    have HV := hidH (fun W (h : LiesS W lo hi v cs) => sEngValid_is true v cs hk W lo hi h hm)
    have ⟨h1, h7, n0, _, _, hall⟩ := engOk_parts cs hk
    have HCP := hidH (fun W (h : LiesS W lo hi v cs) => l3Copy_any v cs W lo hi h (by omega) (by omega))
    have HWD := hidH (fun i c (h : cs[i]? = some c) W => sWiden_set cs wi i c h (hall c (List.mem_of_getElem? h)).1 W)
    have HLL := hidH (listL_length (widC cs wi) cs.length)
    obtain ⟨a, cap, rfl⟩ := hv.some
    clear hv hm hk t1 t2 t3 t4 hall HN1 HN2 HY1 HY2
    go_enter Tryd.func27, Tryd.ntmps27
    go_wp2_with fail
    refine (HV.out _ (HL.out.below BB.out)).mono ?_; rintro e w1 ⟨rfl, hb⟩
    have HB1 := hidH (bThen BB.out hb)
    have F1 := hidH (E1.out.below hb)
    have F2 := hidH (E2.out.below hb)
    have hs1 := hb.size
    rw [S2.out] at hs1
    clear hb cA
    have cA := F1.out.cell
    go_wp2_with fail
    refine (HCP.out _ (HL.out.below HB1.out)).mono ?_; rintro e w2 ⟨u, rfl, hr, hb⟩
    obtain ⟨b2, cap2, rfl, hlc2, hcm2, hlo2, hhi2, hB2⟩ := hr.blk (by omega)
    have hs2 := hb.size
    have G2 := hidH ((F2.out.below hb).alloc (.cells #[.slice (some ⟨b2, 0, none⟩) cs.length cap2] 27))
    have G3 := hidH (EngAt.fresh w2 (.slice (some ⟨b2, 0, none⟩) cs.length cap2))
    have HK0 := hidH (hB2.below (belowN' w2 (.slice (some ⟨b2, 0, none⟩) cs.length cap2)))
    have HB2' := hidH (bMore (bThen HB1.out hb) (.cells #[.slice (some ⟨b2, 0, none⟩) cs.length cap2] 27))
    have hcO := G3.out.cell
    have HS3 := hidH (show (w2.alloc (.cells #[.slice (some ⟨b2, 0, none⟩) cs.length cap2] 27)).heap.size = w2.heap.size + 1 by simp)
    clear hr hb hB2 cA
    unfold maxLen at hcm2
    go_wp2
    go_loopw [7] (fun i wr => ∃ k : Nat, k ≤ cs.length ∧ i = .int .i64 k ∧ (∀ j, j < k → (widC cs wi j).2 = true) ∧ BlkS wr b2 (overS (listL (widC cs wi) cs.length) cs k) ∧ Onto b2 (w2.alloc (.cells #[.slice (some ⟨b2, 0, none⟩) cs.length cap2] 27)) wr) (fun i _ => cs.length - (intOf i).toNat)
    case atStart => exact ⟨0, Nat.zero_le _, rfl, fun j hj => absurd hj (Nat.not_lt_zero _), by rw [over_zeroS]; exact HK0.out, Onto.refl _ _⟩
    case round =>
      obtain ⟨k, hk, rfl, hall, hB, ho⟩ := hrel
      have HA := hidH hall
      have HB := hidH hB
      have HO := hidH ho
      have cO := (G3.out.onto ho (by omega)).cell
      have HBW := hidH (HB2'.out.trans (ho.below (B := w.heap.size) (by omega) (by rw [HS3.out]; omega)))
      clear hall hB ho hcO
      by_cases hlt : k < cs.length
      · obtain ⟨c, hc⟩ := get_lt cs k hlt
        have hg := over_getS (listL (widC cs wi) cs.length) cs k HLL.out hlt
        have ⟨hcw, hfw⟩ := HB.out.2 k c (by rw [hg]; exact hc)
        have HC := hidH (HWD.out k c hc)
        have HNX := hidH (over_setS (listL (widC cs wi) cs.length) cs k (widC cs wi k).1 HLL.out (listL_at _ _ k hlt))
        have HGT := hidH (show (overS (listL (widC cs wi) cs.length) cs k)[k]? = some c by rw [hg]; exact hc)
        clear hc hg
        cases hok : (widC cs wi k).2
        · rw [hok] at HC
          have HNO := hidH (allA_no (widC cs wi) cs.length k hlt hok)
          clear hok
          generalize (widC cs wi k).1 = x at *
          go_wp2_with fail
          refine (HC.out _).mono ?_; rintro e w3 ⟨rfl, hb3⟩
          have HB3 := hidH (bThen HBW.out hb3)
          have M2 := hidH ((G2.out.onto HO.out (by omega)).below hb3)
          clear hb3
          go_wp2_with (refine wpList_store_row rfl 27 _ _ rfl (w.heap.size + 1) #[.slice none 0 0] rfl rfl 27 _ M2.out SZ0.out rfl nil_one ?_)
          refine bodyPost_ret (results_engB Tryd.results27 _ _ (w.heap.size + 1) _ (.bool false) rfl rfl (M2.out.setRow _)) rfl ?_
          rw [listA, HNO.out]
          exact ⟨_, rfl, RowS.nil _ _ _ _ _ (Nat.zero_le _) (fun _ => rfl), bRow HB3.out (by omega) _⟩
        · rw [hok] at HC
          have HYS : Hid (∀ j, j < k + 1 → (widC cs wi j).2 = true) := hidH (fun j hj => by
            by_cases e : j = k
            · rw [e]; exact hok
            · exact HA.out j (by omega))
          clear hok
          generalize (widC cs wi k).1 = x at *
          go_wp2_with fail
          refine (HC.out _).mono ?_; rintro e w3 ⟨rfl, hb3⟩
          have HB3 := hidH (HB.out.below hb3)
          have HO3 := hidH (HO.out.trans (Onto.of_below hb3))
          have cO3 := (G3.out.onto HO3.out (by omega)).cell
          obtain ⟨ho3, hf3⟩ := HB3.out.2 k c HGT.out
          clear hb3 cO
          go_wp2
          go_roundw
          case rel => exact ⟨k + 1, by omega, by go_num, HYS.out, by rw [← HNX.out]; exact HB3.out.set k x, HO3.out.trans (Onto.setCell b2 k _ _)⟩
          case measure => simp [intOf] <;> omega
      · obtain rfl : k = cs.length := by omega
        have HY := hidH (allA_yes (widC cs wi) cs.length HA.out)
        have HFIN : Hid (BlkS wr b2 (listL (widC cs wi) cs.length)) := hidH (by have h := HB.out; rw [over_allS _ _ HLL.out] at h; exact h)
        have K2 := hidH (G2.out.onto HO.out (by omega))
        have K3 := hidH (G3.out.onto HO.out (by omega))
        have SZ := hidH (eng_size (.slice (some ⟨b2, 0, none⟩) cs.length cap2))
        have SO := hidH (slice_one (some ⟨b2, 0, none⟩) cs.length cap2)
        go_wp2_with (first | (refine wpList_load_row rfl 27 _ rfl w2.heap.size rfl 27 _ (0, 0) _ K3.out Tryd.underlying27 rfl SZ.out ?_) | (refine wpList_store_row rfl 27 _ _ rfl (w.heap.size + 1) #[.slice (some ⟨b2, 0, none⟩) cs.length cap2] rfl rfl 27 _ K2.out SZ.out rfl SO.out ?_))
        refine bodyPost_ret (results_engB Tryd.results27 _ _ (w.heap.size + 1) _ (.bool true) rfl rfl (K2.out.setRow _)) rfl ?_
        rw [listA, HY.out]
        have HAP := HFIN.out.apart (Apart.of_onto (lo := w.heap.size + 1) (hi := w.heap.size + 2) (onto_setRow (w.heap.size + 1) wr #[.slice (some ⟨b2, 0, none⟩) cs.length cap2]) (by omega) (by omega)) (.inr (by omega))
        exact ⟨_, rfl, HAP.row (by omega) HAP.1 (by rw [HLL.out]; exact hlc2) (by unfold maxLen; omega) HLL.out.symm, bRow HBW.out (by omega) _⟩
end Go.Proofs.YtliakbgigkajnaaDoor
