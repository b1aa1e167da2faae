/-
  TurnBack: the program and the model, at every list of texts. Condition: texts that fit in memory.
-/
import Derived.Test.YtliakbgigkajnaaDoorEngC
import Derived.Test.YtliakbgigkajnaaDoorEngF
import Derived.BigRegion
import Derived.Deep.RegionHeld3
namespace Go.Proofs.YtliakbgigkajnaaDoor
set_option maxRecDepth 4000
set_option linter.unusedVariables false
open Go.RowKit
theorem turnBack0_any (n b cap : Nat) (zs : List ByteArray) (w : World) (hB : BlkS w b zs) (hl : zs.length ≤ 1048576) (hcl : zs.length ≤ cap) (hcm : cap ≤ 9223372036854775807) (hz : ∀ z ∈ zs, colN n z) :
    Calls Tryd.prog 44 #[.slice (some ⟨b, 0, none⟩) zs.length cap] w fun e w' => e = .returned (.tuple #[]) ∧ BlkS w' b (backL difS zs) ∧ Onto b w w' := by
  have h := turnBack_any n b 0 cap zs w hB (Nat.zero_le _) hl (by omega) hcm hz
  rw [Nat.sub_zero, tailBack_zero] at h
  exact h
/-- The columns that TurnBack answers. -/
def backA (cs : List ByteArray) : List ByteArray := if engOk cs then backL difS cs else []
theorem backA_yes (cs : List ByteArray) (h : engOk cs = true) : backA cs = backL difS cs := by rw [backA, h]; rfl
theorem backA_no (cs : List ByteArray) (h : engOk cs = false) : backA cs = [] := by rw [backA, h]; rfl
theorem backA_len (cs : List ByteArray) : (backA cs).length ≤ 1048576 := by
  unfold backA
  split
  · rename_i h
    have := (engOk_parts cs h).2.1
    rw [backL_length]; omega
  · simp

/-- Two boxes at a call's begin: the engine that came in and the one that goes out. -/
theorem two_boxes (w : World) (v : Value) : Below w.heap.size w ((w.alloc (.cells #[v] 27)).alloc (.cells #[.slice none 0 0] 27)) ∧ EngAt ((w.alloc (.cells #[v] 27)).alloc (.cells #[.slice none 0 0] 27)) w.heap.size v ∧ EngAt ((w.alloc (.cells #[v] 27)).alloc (.cells #[.slice none 0 0] 27)) (w.heap.size + 1) (.slice none 0 0) ∧ ((w.alloc (.cells #[v] 27)).alloc (.cells #[.slice none 0 0] 27)).heap.size = w.heap.size + 2 :=
  ⟨bMore (belowN' w v) _, (EngAt.fresh w v).alloc _, EngAt.newAt _ _ _ (by simp), by simp⟩
theorem changed_turnBack (v : Value) (cs : List ByteArray) (w : World) (lo hi : Nat) (hv : LiesS w lo hi v cs) (hm : ∀ c ∈ cs, c.size ≤ 9223372036854775807) : Calls Tryd.prog 43 #[.agg #[v], .func (.func 44) #[] #[]] w (NewEngB (backA cs) (engOk cs) w) := by
  have HL := hidH hv
  have ⟨t1, t2, t3, t4⟩ := two_boxes w v
  have BB := hidH t1
  have E1 := hidH t2
  have E2 := hidH t3
  have S2 := hidH t4
  have cA := t2.cell
  cases hk : engOk cs
  · have HV := hidH (fun W (h : LiesS W lo hi v cs) => engValid_is false v cs hk W lo hi h hm)
    have HX := hidH (backA_no cs hk)
    have SZ := hidH (eng_size (.slice none 0 0))
    obtain ⟨a, cap, rfl⟩ := hv.some
    clear hv hm hk t1 t2 t3 t4
    go_enter Tryd.func43, Tryd.ntmps43
    go_wp2_with fail
    refine (HV.out _ (HL.out.below BB.out)).mono ?_; rintro e w1 ⟨rfl, hb⟩
    have HB1 := hidH (bThen BB.out hb)
    have F2 := hidH (E2.out.below hb)
    clear hb cA
    go_wp2_with (refine wpList_store_row rfl 27 _ _ rfl (w.heap.size + 1) #[.slice none 0 0] rfl rfl 27 _ F2.out SZ.out rfl nil_one ?_)
    refine bodyPost_ret (results_engB Tryd.results43 _ _ (w.heap.size + 1) _ (.bool false) rfl rfl (F2.out.setRow _)) rfl ?_
    rw [HX.out]
    exact ⟨_, rfl, RowS.nil _ _ _ _ _ (Nat.zero_le _) (fun _ => rfl), bRow HB1.out (by omega) _⟩
  · have HV := hidH (fun W (h : LiesS W lo hi v cs) => engValid_is true v cs hk W lo hi h hm)
    have HX := hidH (backA_yes cs hk)
    have ⟨h1, h7, n0, _, _, hall⟩ := engOk_parts cs hk
    have HCL := hidH (fun W (h : LiesS W lo hi v cs) => clS_any v cs W lo hi h (by omega) (by omega))
    have HTB := hidH (fun b cap W (h : BlkS W b cs) hc hcc => turnBack0_any n0 b cap cs W h (by omega) hc hcc hall)
    have HLN := hidH (show (backA cs).length = cs.length by rw [HX.out]; exact backL_length _ _)
    obtain ⟨a, cap, rfl⟩ := hv.some
    clear hv hm hk t1 t2 t3 t4 hall
    go_enter Tryd.func43, Tryd.ntmps43
    go_wp2_with fail
    refine (HV.out _ (HL.out.below BB.out)).mono ?_; rintro e w1 ⟨rfl, hb⟩
    have HB1 := hidH (bThen BB.out hb)
    have F1 := hidH (E1.out.below hb)
    have F2 := hidH (E2.out.below hb)
    have hs1 := hb.size
    rw [S2.out] at hs1
    clear hb cA
    have cA := F1.out.cell
    go_wp2_with fail
    refine (HCL.out _ (HL.out.below HB1.out)).mono ?_; rintro e w2 ⟨u, rfl, hr, hb⟩
    have HB2 := hidH (bThen HB1.out hb)
    have K2 := hidH (F2.out.below hb)
    have hs2 := hb.size
    obtain ⟨b2, cap2, rfl, hlc2, hcm2, hlo2, hhi2, hB2⟩ := hr.blk (by omega)
    unfold maxLen at hcm2
    have HK := hidH hB2
    clear hr hb hB2 cA
    go_wp2_with fail
    refine (HTB.out b2 cap2 _ HK.out hlc2 (by omega)).mono ?_; rintro e w3 ⟨rfl, hB3, ho⟩
    have HB3 := hidH (HB2.out.trans (ho.below (B := w.heap.size) (by omega) HB2.out.size))
    have M2 := hidH (K2.out.onto ho (by omega))
    have HK3 := hidH hB3
    clear hB3 ho
    have SZ := hidH (eng_size (.slice (some ⟨b2, 0, none⟩) cs.length cap2))
    have SO := hidH (slice_one (some ⟨b2, 0, none⟩) cs.length cap2)
    go_wp2_with (refine wpList_store_row rfl 27 _ _ rfl (w.heap.size + 1) #[.slice (some ⟨b2, 0, none⟩) cs.length cap2] rfl rfl 27 _ M2.out SZ.out rfl SO.out ?_)
    refine bodyPost_ret (results_engB Tryd.results43 _ _ (w.heap.size + 1) _ (.bool true) rfl rfl (M2.out.setRow _)) rfl ?_
    have HAP := HK3.out.apart (Apart.of_onto (lo := w.heap.size + 1) (hi := w.heap.size + 2) (onto_setRow (w.heap.size + 1) w3 #[.slice (some ⟨b2, 0, none⟩) cs.length cap2]) (by omega) (by omega)) (.inr (by omega))
    rw [← HX.out] at HAP
    exact ⟨_, rfl, HAP.row (by omega) HAP.1 (by rw [HLN.out]; exact hlc2) (by unfold maxLen; omega) HLN.out.symm, bRow HB3.out (by omega) _⟩
theorem turnBackE_any (v : Value) (cs : List ByteArray) (w : World) (lo hi : Nat) (hv : LiesS w lo hi v cs) (hm : ∀ c ∈ cs, c.size ≤ 9223372036854775807) : Calls Tryd.prog 23 #[.agg #[v]] w (NewEngB (backA cs) (engOk cs) w) := by
  have HL := hidH hv
  have ⟨t1, t2, t3, t4⟩ := two_boxes w v
  have BB := hidH t1
  have E1 := hidH t2
  have E2 := hidH t3
  have S2 := hidH t4
  have cA := t2.cell
  have HCH := hidH (fun W (h : LiesS W lo hi v cs) => changed_turnBack v cs W lo hi h hm)
  obtain ⟨a, cap, rfl⟩ := hv.some
  clear hv hm t1 t2 t3 t4
  generalize backA cs = rs at *
  generalize engOk cs = rb at *
  go_enter Tryd.func23, Tryd.ntmps23
  go_wp2_with fail
  refine (HCH.out _ (HL.out.below BB.out)).mono ?_; rintro e w1 ⟨u, rfl, hr, hb⟩
  have HB1 := hidH (bThen BB.out hb)
  have F2 := hidH (E2.out.below hb)
  have HR := hidH hr
  obtain ⟨a2, cap2, rfl⟩ := hr.some
  clear hr hb cA
  have SZ := hidH (eng_size (.slice a2 rs.length cap2))
  have SO := hidH (slice_one a2 rs.length cap2)
  go_wp2_with (refine wpList_store_row rfl 27 _ _ rfl (w.heap.size + 1) #[.slice a2 rs.length cap2] rfl rfl 27 _ F2.out SZ.out rfl SO.out ?_)
  refine bodyPost_ret (results_engB Tryd.results23 _ _ (w.heap.size + 1) _ (.bool rb) rfl rfl (F2.out.setRow _)) rfl ?_
  exact ⟨_, rfl, (HR.out.apart (Apart.of_onto (lo := w.heap.size + 1) (hi := w.heap.size + 2) (onto_setRow (w.heap.size + 1) _ _) (by omega) (by omega)) (.inr (by rw [S2.out]; omega))).mono (by rw [S2.out]; omega) (by simp), bRow HB1.out (by omega) _⟩
set_option maxHeartbeats 1000000 in
theorem l3Undo_any (n : Nat) (v : Value) (cs : List ByteArray) (w : World) (lo hi : Nat) (hv : LiesS w lo hi v cs) (h0 : 0 < cs.length) (hn : cs.length ≤ 1048576) (hz : ∀ z ∈ cs, colN n z) : Calls Tryd.prog 42 #[.agg #[v]] w (NewEng (backL difS cs) w) := by
  have HL := hidH hv
  have HZ := hidH hz
  have HCP := hidH (fun W (h : LiesS W lo hi v cs) => l3Copy_any v cs W lo hi h h0 hn)
  have HMN := hidH (fun c d (hc : colN n c) (hd : colN n d) => l3Minus_any n c d hc hd)
  have HBL := hidH (backL_all difS (colN n) (colN_dif n) cs hz)
  obtain ⟨m, hm⟩ : ∃ m, cs.length = m + 1 := ⟨cs.length - 1, by omega⟩
  have HE := hidH (tailBack_last difS m cs (by omega))
  obtain ⟨b, off, cap, rfl, hlc, hcm, hlo, hhi, hbw, hcell⟩ := hv.addr h0
  have HC := hidH hcell
  have ⟨t1, t2, t3, t4⟩ := two_boxes w (.slice (some ⟨b, off, none⟩) cs.length cap)
  have BB := hidH t1
  have E1 := hidH t2
  have E2 := hidH t3
  have S2 := hidH t4
  have cA := t2.cell
  have HM := hidH hm
  unfold maxLen at hcm
  have hml : m ≤ 1048576 := by omega
  clear hv hz hcell t1 t2 t3 t4 hm
  go_enter Tryd.func42, Tryd.ntmps42
  go_wp2_with fail
  refine (HCP.out _ (HL.out.below BB.out)).mono ?_; rintro e w1 ⟨u, rfl, hr, hb⟩
  obtain ⟨b2, cap2, rfl, hlc2, hcm2, hlo2, hhi2, hB2⟩ := hr.blk (by omega)
  have hs1 := hb.size
  have HB1 := hidH (bThen BB.out hb)
  have F1 := hidH (E1.out.below hb)
  have F2 := hidH (E2.out.below hb)
  rw [S2.out] at hlo2 hs1
  have G1 := hidH (F1.out.alloc (.cells #[.slice (some ⟨b2, 0, none⟩) cs.length cap2] 27))
  have G2 := hidH (F2.out.alloc (.cells #[.slice (some ⟨b2, 0, none⟩) cs.length cap2] 27))
  have G3 := hidH (EngAt.fresh w1 (.slice (some ⟨b2, 0, none⟩) cs.length cap2))
  have HK0 := hidH (hB2.below (belowN' w1 (.slice (some ⟨b2, 0, none⟩) cs.length cap2)))
  have HB1' := hidH (bMore HB1.out (.cells #[.slice (some ⟨b2, 0, none⟩) cs.length cap2] 27))
  have hcA := G1.out.cell
  have hcO := G3.out.cell
  have HS3 := hidH (show (w1.alloc (.cells #[.slice (some ⟨b2, 0, none⟩) cs.length cap2] 27)).heap.size = w1.heap.size + 1 by simp)
  clear hr hb hB2 cA
  unfold maxLen at hcm2
  go_wp2
  go_loopw [4] (fun i wr => ∃ t : Nat, t ≤ m ∧ i = .int .i64 ((t : Int) - 1) ∧ BlkS wr b2 (tailBack difS t cs) ∧ Onto b2 (w1.alloc (.cells #[.slice (some ⟨b2, 0, none⟩) cs.length cap2] 27)) wr) (fun i _ => (intOf i + 1).toNat)
  case atStart => exact ⟨m, Nat.le_refl _, by rw [HM.out]; go_num, by rw [HE.out]; exact HK0.out, Onto.refl _ _⟩
  case round =>
    obtain ⟨t, ht, rfl, hB, ho⟩ := hrel
    have HB := hidH hB
    have HO := hidH ho
    have cA := (G1.out.onto ho (by omega)).cell
    have cO := (G3.out.onto ho (by omega)).cell
    clear hB ho hcA hcO
    by_cases hlt : 0 < t
    · obtain ⟨s, rfl⟩ : ∃ s, t = s + 1 := ⟨t - 1, by omega⟩
      obtain ⟨c, hc⟩ := get_lt cs s (by have := HM.out; omega)
      obtain ⟨d, hd⟩ := get_lt (backL difS cs) (s + 1) (by rw [backL_length]; have := HM.out; omega)
      have HST := hidH (tailBack_step difS s cs c d hc hd)
      have hc1 : wr.cell? ⟨b, off + s, none⟩ = some (.string c) := by
        rw [HO.out.cell (p := ⟨b, off + s, none⟩) (by rw [HS3.out]; show b < _; omega) (by show b ≠ b2; omega), HB1'.out.cell (p := ⟨b, off + s, none⟩) hbw]
        exact HC.out s c hc
      have ⟨hc2, _⟩ := HB.out.2 (s + 1) d (by rw [tailBack_high _ _ _ _ (Nat.le_refl _)]; exact hd)
      obtain ⟨o1, ho1⟩ := get_lt (tailBack difS (s + 1) cs) s (by rw [tailBack_length]; have := HM.out; omega)
      have C1 := hidH (HB.out.2 s o1 ho1)
      have HCS := hidH (HMN.out c d (HZ.out c (List.mem_of_getElem? hc)) (HBL.out d (List.mem_of_getElem? hd)))
      have HBW := hidH (show b2 < wr.heap.size from HB.out.1)
      have hi1 : ((s + 1 : Nat) : Int) - 1 = (s : Int) := by omega
      have hsm : s < cs.length := by have := HM.out; omega
      obtain ⟨j, hj⟩ : ∃ j, j = s + 1 := ⟨_, rfl⟩
      have hw : IntKind.i64.wrap ((s : Int) + 1) = (j : Int) := by rw [hj]; exact IntWalk.i64_in _ (by omega)
      have hjm : j < cs.length := by have := HM.out; omega
      rw [← hj] at hc2
      have HJ := hidH hj
      have HAA := hidH ((G1.out.onto HO.out (by omega)))
      have HOO := hidH ((G3.out.onto HO.out (by omega)))
      clear hc hd ho1 hj
      rw [hi1]
      go_wp2_with fail
      go_region_held3 (fun w' => w'.cell? ⟨w.heap.size, 0, none⟩ = some (.slice (some ⟨b, off, none⟩) cs.length cap) ∧ w'.cell? ⟨w1.heap.size, 0, none⟩ = some (.slice (some ⟨b2, 0, none⟩) cs.length cap2) ∧ w'.cell? ⟨b, off + s, none⟩ = some (.string c) ∧ w'.cell? ⟨b2, j, none⟩ = some (.string d)) (first | exact ⟨cA, cO, hc1, hc2⟩ | exact ⟨cA2, cO2, hc12, hc22⟩ | exact ⟨by rw [World.cell?_setCell_other _ _ _ _ (by intro h; injection h; omega)]; exact cA2, by rw [World.cell?_setCell_other _ _ _ _ (by intro h; injection h; omega)]; exact cO2, by rw [World.cell?_setCell_other _ _ _ _ (by intro h; injection h; omega)]; exact hc12, by rw [World.cell?_setCell_other _ _ _ _ (by intro h; injection h; have := HJ.out; omega)]; exact hc22⟩)
        (first | (go_at_call 64; (with_reducible refine (HCS.out _).mono ?_); rintro e w2 ⟨rfl, hbw⟩; (have HBD := hidH (bDrew' hbw)); (have HB2 := hidH (HB.out.below HBD.out)); (have hq1 : w2.cell? ⟨b2, s, none⟩ = some (.string o1) := by rw [HBD.out.cell (p := ⟨b2, s, none⟩) HBW.out]; exact C1.out.1); (have hq2 : w2.frozen? ⟨b2, s, none⟩ = false := by rw [HBD.out.frozen (p := ⟨b2, s, none⟩) HBW.out]; exact C1.out.2); (have cA2 := (HAA.out.below HBD.out).cell); (have cO2 := (HOO.out.below HBD.out).cell); (have hc12 : w2.cell? ⟨b, off + s, none⟩ = some (.string c) := by rw [HBD.out.cell (p := ⟨b, off + s, none⟩) (cell_blk _ _ _ hc1)]; exact hc1); (have hc22 : w2.cell? ⟨b2, j, none⟩ = some (.string d) := by rw [HBD.out.cell (p := ⟨b2, j, none⟩) HBW.out]; exact hc2); clear hbw))
      all_goals
        go_wp2
        go_roundw
        case rel =>
          refine ⟨s, by omega, by go_num, ?_, (HO.out.trans (Onto.of_below HBD.out)).trans (Onto.setCell b2 s _ _)⟩
          rw [← HST.out]
          exact HB2.out.set s _
        case measure => simp [intOf] <;> omega
    · obtain rfl : t = 0 := by omega
      have K1 := hidH (G1.out.onto HO.out (by omega))
      have K2 := hidH (G2.out.onto HO.out (by omega))
      have K3 := hidH (G3.out.onto HO.out (by omega))
      have SZ := hidH (eng_size (.slice (some ⟨b2, 0, none⟩) cs.length cap2))
      have SO := hidH (slice_one (some ⟨b2, 0, none⟩) cs.length cap2)
      have HFIN : Hid (BlkS wr b2 (backL difS cs)) := hidH (by rw [← tailBack_zero]; exact HB.out)
      have HBF := hidH (HB1'.out.trans (HO.out.below (B := w.heap.size) (by omega) (by rw [HS3.out]; omega)))
      go_wp2_with (first | (refine wpList_load_row rfl 27 _ rfl w1.heap.size rfl 27 _ (0, 0) _ K3.out Tryd.underlying27 rfl SZ.out ?_) | (refine wpList_store_row rfl 27 _ _ rfl (w.heap.size + 1) #[.slice (some ⟨b2, 0, none⟩) cs.length cap2] rfl rfl 27 _ K2.out SZ.out rfl SO.out ?_))
      refine bodyPost_ret (results_eng Tryd.results42 _ _ (w.heap.size + 1) _ rfl (K2.out.setRow _)) rfl ?_
      have hsw := HFIN.out.1
      have HAP := HFIN.out.apart (Apart.of_onto (lo := w.heap.size + 1) (hi := w.heap.size + 2) (onto_setRow (w.heap.size + 1) wr #[.slice (some ⟨b2, 0, none⟩) cs.length cap2]) (by omega) (by omega)) (.inr hlo2)
      exact ⟨_, rfl, HAP.row (by omega) HAP.1 (by rw [backL_length]; exact hlc2) (by unfold maxLen; omega) (backL_length _ _).symm, bRow HBF.out (by omega) _⟩
theorem sTurnBack_any (v : Value) (cs : List ByteArray) (w : World) (lo hi : Nat) (hv : LiesS w lo hi v cs) (hm : ∀ c ∈ cs, c.size ≤ 9223372036854775807) : Calls Tryd.prog 22 #[.agg #[v]] w (NewEngB (backA cs) (engOk cs) w) := by
  have HL := hidH hv
  have ⟨t1, t2, t3, t4⟩ := two_boxes w v
  have BB := hidH t1
  have E1 := hidH t2
  have E2 := hidH t3
  have S2 := hidH t4
  have cA := t2.cell
  cases hk : engOk cs
  · have HV := hidH (fun W (h : LiesS W lo hi v cs) => sEngValid_is false v cs hk W lo hi h hm)
    have HX := hidH (backA_no cs hk)
    have SZ := hidH (eng_size (.slice none 0 0))
    obtain ⟨a, cap, rfl⟩ := hv.some
    clear hv hm hk t1 t2 t3 t4
    go_enter Tryd.func22, Tryd.ntmps22
    go_wp2_with fail
    refine (HV.out _ (HL.out.below BB.out)).mono ?_; rintro e w1 ⟨rfl, hb⟩
    have HB1 := hidH (bThen BB.out hb)
    have F2 := hidH (E2.out.below hb)
    clear hb cA
    go_wp2_with (refine wpList_store_row rfl 27 _ _ rfl (w.heap.size + 1) #[.slice none 0 0] rfl rfl 27 _ F2.out SZ.out rfl nil_one ?_)
    refine bodyPost_ret (results_engB Tryd.results22 _ _ (w.heap.size + 1) _ (.bool false) rfl rfl (F2.out.setRow _)) rfl ?_
    rw [HX.out]
    exact ⟨_, rfl, RowS.nil _ _ _ _ _ (Nat.zero_le _) (fun _ => rfl), bRow HB1.out (by omega) _⟩
  · have HV := hidH (fun W (h : LiesS W lo hi v cs) => sEngValid_is true v cs hk W lo hi h hm)
    have HX := hidH (backA_yes cs hk)
    have ⟨h1, h7, n0, _, _, hall⟩ := engOk_parts cs hk
    have HUN := hidH (fun W (h : LiesS W lo hi v cs) => l3Undo_any n0 v cs W lo hi h (by omega) (by omega) hall)
    rw [← HX.out] at HUN
    obtain ⟨a, cap, rfl⟩ := hv.some
    clear hv hm hk t1 t2 t3 t4 hall HX
    generalize backA cs = rs at *
    go_enter Tryd.func22, Tryd.ntmps22
    go_wp2_with fail
    refine (HV.out _ (HL.out.below BB.out)).mono ?_; rintro e w1 ⟨rfl, hb⟩
    have HB1 := hidH (bThen BB.out hb)
    have F1 := hidH (E1.out.below hb)
    have F2 := hidH (E2.out.below hb)
    have hs1 := hb.size
    rw [S2.out] at hs1
    clear hb cA
    have cA := F1.out.cell
    go_wp2_with fail
    refine (HUN.out _ (HL.out.below HB1.out)).mono ?_; rintro e w2 ⟨u, rfl, hr, hb⟩
    have HB2 := hidH (bThen HB1.out hb)
    have K2 := hidH (F2.out.below hb)
    have hs2 := hb.size
    have HR := hidH hr
    obtain ⟨a2, cap2, rfl⟩ := hr.some
    clear hr hb cA
    have SZ := hidH (eng_size (.slice a2 rs.length cap2))
    have SO := hidH (slice_one a2 rs.length cap2)
    go_wp2_with (refine wpList_store_row rfl 27 _ _ rfl (w.heap.size + 1) #[.slice a2 rs.length cap2] rfl rfl 27 _ K2.out SZ.out rfl SO.out ?_)
    refine bodyPost_ret (results_engB Tryd.results22 _ _ (w.heap.size + 1) _ (.bool true) rfl rfl (K2.out.setRow _)) rfl ?_
    exact ⟨_, rfl, (HR.out.apart (Apart.of_onto (lo := w.heap.size + 1) (hi := w.heap.size + 2) (onto_setRow (w.heap.size + 1) _ _) (by omega) (by omega)) (.inr (by omega))).mono (by omega) (by simp), bRow HB2.out (by omega) _⟩
end Go.Proofs.YtliakbgigkajnaaDoor
