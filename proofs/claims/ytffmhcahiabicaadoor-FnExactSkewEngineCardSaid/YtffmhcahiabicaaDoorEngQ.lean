/-
  SkewEngine of the program, at every list of texts. Condition: texts that fit in memory.
-/
import Derived.Test.YtffmhcahiabicaaDoorEngP
namespace Go.Proofs.YtffmhcahiabicaaDoor
set_option maxRecDepth 4000
set_option linter.unusedVariables false
open Go.RowKit
/-- The columns that SkewEngine answers. -/
def askA (cs : List ByteArray) : List ByteArray := if engOk cs then askewL difS cs else []
theorem askA_yes (cs : List ByteArray) (h : engOk cs = true) : askA cs = askewL difS cs := by rw [askA, h]; rfl
theorem askA_no (cs : List ByteArray) (h : engOk cs = false) : askA cs = [] := by rw [askA, h]; rfl
theorem askA_len (cs : List ByteArray) : (askA cs).length ≤ 1048576 := by
  unfold askA
  split
  · rename_i h
    have := (engOk_parts cs h).2.1
    rw [askewL_length]; omega
  · simp
theorem changed_skew (v : Value) (cs : List ByteArray) (w : World) (lo hi : Nat) (hv : LiesS w lo hi v cs) (hm : ∀ c ∈ cs, c.size ≤ 9223372036854775807) : Calls Tryd.prog 42 #[.agg #[v], .func (.func 43) #[] #[]] w (NewEngB (askA cs) (engOk cs) w) := by
  have HL := hidH hv
  have ⟨t1, t2, t3, t4⟩ := two_boxes w v
  have BB := hidH t1
  have E1 := hidH t2
  have E2 := hidH t3
  have S2 := hidH t4
  have cA := t2.cell
  cases hk : engOk cs
  · have HV := hidH (fun W (h : LiesS W lo hi v cs) => engValid_is false v cs hk W lo hi h hm)
    have HX := hidH (askA_no cs hk)
    have SZ := hidH (eng_size (.slice none 0 0))
    obtain ⟨a, cap, rfl⟩ := hv.some
    clear hv hm hk t1 t2 t3 t4
    go_enter Tryd.func42, Tryd.ntmps42
    go_wp2_with fail
    refine (HV.out _ (HL.out.below BB.out)).mono ?_; rintro e w1 ⟨rfl, hb⟩
    have HB1 := hidH (bThen BB.out hb)
    have F2 := hidH (E2.out.below hb)
    clear hb cA
    go_wp2_with (refine wpList_store_row rfl 26 _ _ rfl (w.heap.size + 1) #[.slice none 0 0] rfl rfl 26 _ F2.out SZ.out rfl nil_one ?_)
    refine bodyPost_ret (results_engB Tryd.results42 _ _ (w.heap.size + 1) _ (.bool false) rfl rfl (F2.out.setRow _)) rfl ?_
    rw [HX.out]
    exact ⟨_, rfl, RowS.nil _ _ _ _ _ (Nat.zero_le _) (fun _ => rfl), bRow HB1.out (by omega) _⟩
  · have HV := hidH (fun W (h : LiesS W lo hi v cs) => engValid_is true v cs hk W lo hi h hm)
    have HX := hidH (askA_yes cs hk)
    have ⟨h1, h7, n0, _, _, hall⟩ := engOk_parts cs hk
    have HCL := hidH (fun W (h : LiesS W lo hi v cs) => clS_any v cs W lo hi h (by omega) (by omega))
    have HTB := hidH (fun b cap W (h : BlkS W b cs) hc hcc => skew_any n0 b cap cs W h (by omega) hc hcc hall)
    have HLN := hidH (show (askA cs).length = cs.length by rw [HX.out]; exact askewL_length _ _)
    obtain ⟨a, cap, rfl⟩ := hv.some
    clear hv hm hk t1 t2 t3 t4 hall
    go_enter Tryd.func42, Tryd.ntmps42
    go_wp2_with fail
    refine (HV.out _ (HL.out.below BB.out)).mono ?_; rintro e w1 ⟨rfl, hb⟩
    have HB1 := hidH (bThen BB.out hb)
    have F1 := hidH (E1.out.below hb)
    have F2 := hidH (E2.out.below hb)
    have hs1 := hb.size
    rw [S2.out] at hs1
    clear hb cA
    have cA := F1.out.cell
    go_wp2_with fail
    refine (HCL.out _ (HL.out.below HB1.out)).mono ?_; rintro e w2 ⟨u, rfl, hr, hb⟩
    have HB2 := hidH (bThen HB1.out hb)
    have K2 := hidH (F2.out.below hb)
    have hs2 := hb.size
    obtain ⟨b2, cap2, rfl, hlc2, hcm2, hlo2, hhi2, hB2⟩ := hr.blk (by omega)
    unfold maxLen at hcm2
    have HK := hidH hB2
    clear hr hb hB2 cA
    go_wp2_with fail
    refine (HTB.out b2 cap2 _ HK.out hlc2 (by omega)).mono ?_; rintro e w3 ⟨rfl, hB3, ho⟩
    have HB3 := hidH (HB2.out.trans (ho.below (B := w.heap.size) (by omega) HB2.out.size))
    have M2 := hidH (K2.out.onto ho (by omega))
    have HK3 := hidH hB3
    clear hB3 ho
    have SZ := hidH (eng_size (.slice (some ⟨b2, 0, none⟩) cs.length cap2))
    have SO := hidH (slice_one (some ⟨b2, 0, none⟩) cs.length cap2)
    go_wp2_with (refine wpList_store_row rfl 26 _ _ rfl (w.heap.size + 1) #[.slice (some ⟨b2, 0, none⟩) cs.length cap2] rfl rfl 26 _ M2.out SZ.out rfl SO.out ?_)
    refine bodyPost_ret (results_engB Tryd.results42 _ _ (w.heap.size + 1) _ (.bool true) rfl rfl (M2.out.setRow _)) rfl ?_
    have HAP := HK3.out.apart (Apart.of_onto (lo := w.heap.size + 1) (hi := w.heap.size + 2) (onto_setRow (w.heap.size + 1) w3 #[.slice (some ⟨b2, 0, none⟩) cs.length cap2]) (by omega) (by omega)) (.inr (by omega))
    rw [← HX.out] at HAP
    exact ⟨_, rfl, HAP.row (by omega) HAP.1 (by rw [HLN.out]; exact hlc2) (by unfold maxLen; omega) HLN.out.symm, bRow HB3.out (by omega) _⟩
theorem skewE_any (v : Value) (cs : List ByteArray) (w : World) (lo hi : Nat) (hv : LiesS w lo hi v cs) (hm : ∀ c ∈ cs, c.size ≤ 9223372036854775807) : Calls Tryd.prog 13 #[.agg #[v]] w (NewEngB (askA cs) (engOk cs) w) := by
  have HL := hidH hv
  have ⟨t1, t2, t3, t4⟩ := two_boxes w v
  have BB := hidH t1
  have E1 := hidH t2
  have E2 := hidH t3
  have S2 := hidH t4
  have cA := t2.cell
  have HCH := hidH (fun W (h : LiesS W lo hi v cs) => changed_skew v cs W lo hi h hm)
  obtain ⟨a, cap, rfl⟩ := hv.some
  clear hv hm t1 t2 t3 t4
  generalize askA cs = rs at *
  generalize engOk cs = rb at *
  go_enter Tryd.func13, Tryd.ntmps13
  go_wp2_with fail
  refine (HCH.out _ (HL.out.below BB.out)).mono ?_; rintro e w1 ⟨u, rfl, hr, hb⟩
  have HB1 := hidH (bThen BB.out hb)
  have F2 := hidH (E2.out.below hb)
  have HR := hidH hr
  obtain ⟨a2, cap2, rfl⟩ := hr.some
  clear hr hb cA
  have SZ := hidH (eng_size (.slice a2 rs.length cap2))
  have SO := hidH (slice_one a2 rs.length cap2)
  go_wp2_with (refine wpList_store_row rfl 26 _ _ rfl (w.heap.size + 1) #[.slice a2 rs.length cap2] rfl rfl 26 _ F2.out SZ.out rfl SO.out ?_)
  refine bodyPost_ret (results_engB Tryd.results13 _ _ (w.heap.size + 1) _ (.bool rb) rfl rfl (F2.out.setRow _)) rfl ?_
  exact ⟨_, rfl, (HR.out.apart (Apart.of_onto (lo := w.heap.size + 1) (hi := w.heap.size + 2) (onto_setRow (w.heap.size + 1) _ _) (by omega) (by omega)) (.inr (by rw [S2.out]; omega))).mono (by rw [S2.out]; omega) (by simp), bRow HB1.out (by omega) _⟩
end Go.Proofs.YtffmhcahiabicaaDoor
