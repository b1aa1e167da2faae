/-
  The walk of the law FnGreedyValues. No conditions but that slices fit in memory.
-/
import Derived.Test.YtmmcdmnmhpbehaaPlfW
import Derived.Test.YtmmcdmnmhpbehaaPlnD
import Derived.Test.YtmmcdmnmhpbehaaPlanI
namespace Go.Proofs.Ytmmcdmnmhpbehaa
set_option maxRecDepth 4000
open Go.RowKit
/-- What a segment that is made holds. -/
theorem seg_good {zs : List Int} {f c d : Int} (h : segB zs f c d = true) : segV (c, segP zs f c d) = segZ zs f c ∧ segOk (c, segP zs f c d) = true ∧ degL (segP zs f c d) ≤ d := by
  obtain ⟨k, n, hf, hc, hn1, hkn, h60, _, hd1, _, _, _, _⟩ := seg_vals zs f c d h
  have hp : segP zs f c d = interA (segZ zs f c) := by unfold segP; rw [h, if_pos rfl]
  have h' := h
  unfold segB at h'
  simp only [Bool.and_eq_true] at h'
  obtain ⟨hs, ha, hcc, hd, hr⟩ := h'
  have hr' := hr
  unfold runB at hr'
  rw [Bool.and_eq_true] at hr'
  obtain ⟨T, P, e, _, _, _, hPok, _, hvals, _, _⟩ := inter_yes (segZ zs f c) hr'.2
  have hlen : (segZ zs f c).length = n := by unfold segZ; rw [List.length_take, List.length_drop]; omega
  have hv : segV (c, segP zs f c d) = segZ zs f c := by
    unfold segV
    rw [hp, e, hc, Int.toNat_natCast, ← hc]
    apply List.ext_getElem?
    intro i
    by_cases hi : i < n
    · rw [vals_get _ _ _ _ hi, hvals i (by omega), Int.zero_add]
    · rw [List.getElem?_eq_none (by rw [vals_length]; omega), List.getElem?_eq_none (by omega)]
  refine ⟨hv, ?_, by rw [hp]; exact hd1⟩
  have htab : tableOk (segZ zs f c) = true := by
    refine small_tab _ ?_
    unfold segZ
    exact small_take _ (small_drop zs hs f.toNat (by omega)) _ (by omega)
  unfold segOk
  have hv2 : vals (segP zs f c d) 0 c.toNat = segZ zs f c := hv
  show (polyOk (segP zs f c d) && (decide ((1 : Int) ≤ c ∧ c ≤ 60) && tableOk (vals (segP zs f c d) 0 c.toNat))) = true
  rw [hv2, htab, hp, e, hPok, decide_eq_true (by omega)]; rfl
theorem seg_runB (zs : List Int) (d k : Nat) (hs : smallOk zs = true) (hd : degOk (d : Int) = true) (hk : k < zs.length) : segB zs (k : Int) (longN (d + 1) (zs.drop k) : Nat) (d : Int) = true := by
  have hp := longN_pos (d + 1) (zs.drop k) (by omega) (by rw [List.length_drop]; omega)
  have hl := longN_le (d + 1) (zs.drop k)
  rw [List.length_drop] at hl
  have hr := run_long (zs.drop k) (d : Int) (small_drop zs hs k hk) hd (longN (d + 1) (zs.drop k)) hp (by rw [List.length_drop]; exact hl)
  rw [Int.toNat_natCast] at hr
  have h1 : segAt zs (k : Int) = true := decide_eq_true (by omega)
  have h2 : segCnt zs (k : Int) (longN (d + 1) (zs.drop k) : Nat) = true := decide_eq_true (by omega)
  have h3 : runB (segZ zs (k : Int) (longN (d + 1) (zs.drop k) : Nat)) (d : Int) = true := by
    unfold segZ
    rw [Int.toNat_natCast, Int.toNat_natCast, hr]
    exact decide_eq_true (Nat.le_refl _)
  unfold segB
  rw [hs, h1, h2, hd, h3]; rfl
/-- The plan by longest runs has the table as values. -/
theorem plF_good (zs : List Int) (d : Nat) (hs : smallOk zs = true) (hd : degOk (d : Int) = true) (f j : Nat) (hf : zs.length - j ≤ f) : planL (plF zs d f j) = zs.drop j ∧ (∀ s ∈ plF zs d f j, segOk s = true ∧ degL s.2 ≤ (d : Int)) := by
  have hF := nxZ_fwd (d + 1) zs (by omega)
  induction f generalizing j with
  | zero => exact ⟨by rw [List.drop_eq_nil_of_le (by omega)]; rfl, fun s h => by cases h⟩
  | succ f ih =>
    rw [plF]
    by_cases c : j < zs.length
    · rw [if_pos c]
      have hlt := hF.lt j c
      obtain ⟨g1, g2, g3⟩ := seg_good (seg_runB zs d j hs hd c)
      obtain ⟨i1, i2⟩ := ih (nxZ (d + 1) zs j) (by omega)
      refine ⟨?_, fun s h => ?_⟩
      · unfold planL at *
        rw [List.flatMap_cons, i1, g1]
        unfold segZ nxZ
        rw [Int.toNat_natCast, Int.toNat_natCast, ← List.drop_drop, List.take_append_drop]
      · rcases List.mem_cons.1 h with e | e
        · rw [e]; exact ⟨g2, g3⟩
        · exact i2 s e
    · rw [if_neg c]
      exact ⟨by rw [List.drop_eq_nil_of_le (by omega)]; rfl, fun s h => by cases h⟩
theorem degM_le (cs : List (Int × List Int)) (d : Int) (hd : -1 ≤ d) (h : ∀ s ∈ cs, degL s.2 ≤ d) (k : Nat) (hk : k ≤ cs.length) : degM cs k ≤ d := by
  induction k with
  | zero => exact hd
  | succ k ih =>
    have hx : cs[k]? = some cs[k] := List.getElem?_eq_getElem (by omega)
    rw [degM_next cs k _ hx]
    have := ih (by omega)
    have := h cs[k] (List.getElem_mem _)
    omega
theorem greedyG_good (zs : List Int) (n : Int) (hs : smallOk zs = true) (hd : degOk n = true) : planOk (greedyG zs n) = true ∧ planA (greedyG zs n) = zs ∧ pdegA (greedyG zs n) ≤ n := by
  obtain ⟨h1, h60, _⟩ := (small_iff zs).1 hs
  have hn : 0 ≤ n := by unfold degOk at hd; exact (of_decide_eq_true hd).1
  obtain ⟨d, rfl⟩ : ∃ d : Nat, n = (d : Int) := ⟨n.toNat, by omega⟩
  have hG : greedyG zs (d : Int) = plF zs d zs.length 0 := by rw [greedyG_yes zs _ hs hd, Int.toNat_natCast]; rfl
  have hl : (greedyG zs (d : Int)).length = fewN (d + 1) zs := by rw [greedyG_len zs _ (by rw [hs, hd]; rfl), Int.toNat_natCast]
  have hp := few_pos (d + 1) zs (by omega) h1
  obtain ⟨g1, g2⟩ := plF_good zs d hs hd zs.length 0 (by omega)
  rw [← hG] at g1 g2
  rw [List.drop_zero] at g1
  have hok : planOk (greedyG zs (d : Int)) = true := by
    unfold planOk
    rw [g1, decide_eq_true (by omega), decide_eq_true h60, Bool.and_true, Bool.true_and]
    exact List.all_eq_true.2 fun s h => (g2 s h).1
  refine ⟨hok, by unfold planA; rw [hok, if_pos rfl, g1], ?_⟩
  unfold pdegA
  rw [hok, if_pos rfl]
  exact degM_le _ _ (by omega) (fun s h => (g2 s h).2) _ (Nat.le_refl _)
theorem runAns_at (zs : List Int) (d k : Nat) (hs : smallOk zs = true) (hd : degOk (d : Int) = true) (hk : k < zs.length) : runAns zs (k : Int) (d : Int) = (longN (d + 1) (zs.drop k) : Nat) := by
  have h : fromOk zs (k : Int) = true := decide_eq_true (by omega)
  unfold runAns
  rw [hs, hd, h, if_pos (by rfl), Int.toNat_natCast, Int.toNat_natCast]
set_option maxHeartbeats 6400000 in
theorem lawGreedyValues (a : Option Addr) (len cap : Nat) (w : World) (hc : Came w a len cap) : Calls Try.prog 6 #[.slice a len cap] w (Gives (.bool true) w) := by
  have HC := hidH hc
  have hc1 := hc.lenLe
  have hc2 := hc.capLe
  unfold maxLen at hc2
  by_cases hbig : 1048576 < len
  · go_enter Try.func6, Try.ntmps6
    go_wp2
    go_ret
    exact ⟨rfl, Below.refl _ _⟩
  have hsm : len ≤ 1048576 := by omega
  clear hbig hc
  go_enter Try.func6, Try.ntmps6
  have B0 := hidH (Below.refl w.heap.size w)
  go_wp2_with fail
  refine (drawGreedy a len cap _ HC.out hsm).mono ?_; rintro e w1 ⟨v, zs, n, rfl, hz, hl61, hn0, hn1, hb⟩
  have B1 := hidH (bThen B0.out hb)
  have s1 := hb.size
  have LZ_1 := hidH hz
  clear hb B0  hz
  obtain ⟨za, zcap, rfl, zc1, zc2, _⟩ := LZ_1.out
  unfold maxLen at zc2
  have hg60 := greedyG_small zs n
  cases hv : smallOk zs && degOk n
  · have HT := hidH hv
    clear hv
    go_wp2_with fail
    refine (greedyW_any _ zs n _ _ _ LZ_1.out).mono ?_; rintro e w2 ⟨p, rfl, hr, hb⟩
    rw [HT.out]
    have B2 := hidH (bThen B1.out hb)
    have s2 := hb.size
    have LZ_2 := hidH (LZ_1.out.below hb)
    have P_2 := hidH hr
    clear hb B1 LZ_1 hr
    obtain ⟨pa, pcap, rfl, hpl, hpc⟩ := P_2.out.form
    unfold maxLen at hpc
    go_wp2_with fail
    refine (sGreedyW_any _ zs n _ _ _ LZ_2.out).mono ?_; rintro e w3 ⟨q, rfl, hr, hb⟩
    rw [HT.out]
    have B3 := hidH (bThen B2.out hb)
    have s3 := hb.size
    have LZ_3 := hidH (LZ_2.out.below hb)
    have P_3 := hidH (P_2.out.below hb)
    have Q_3 := hidH hr
    clear hb B2 LZ_2 P_2 hr
    obtain ⟨qa, qcap, rfl, hql, hqc⟩ := Q_3.out.form
    unfold maxLen at hqc
    generalize hgs : greedyG zs n = gs at *
    have HGS := hidH hgs
    clear hgs
    go_wp2_with fail
    refine (dePlans_yes _ _ gs _ _ _ P_3.out.lies Q_3.out.lies (by omega)).mono ?_; rintro e w4 ⟨rfl, hb⟩
    have B4 := hidH (bThen B3.out hb)
    have s4 := hb.size
    have LZ_4 := hidH (LZ_3.out.below hb)
    have P_4 := hidH (P_3.out.below hb)
    have Q_4 := hidH (Q_3.out.below hb)
    clear hb B3 LZ_3 P_3 Q_3
    go_wp2_with fail
    refine (dePlans_yes _ _ gs _ _ _ P_4.out.lies Q_4.out.lies (by omega)).mono ?_; rintro e w5 ⟨rfl, hb⟩
    have B5 := hidH (bThen B4.out hb)
    have s5 := hb.size
    have LZ_5 := hidH (LZ_4.out.below hb)
    have P_5 := hidH (P_4.out.below hb)
    have Q_5 := hidH (Q_4.out.below hb)
    clear hb B4 LZ_4 P_4 Q_4
    go_wp2_with fail
    go_ret
    exact ⟨rfl, B5.out⟩
  · have HT := hidH hv
    rw [Bool.and_eq_true] at hv
    obtain ⟨hs, hd⟩ := hv
    obtain ⟨k1, k2, k3⟩ := greedyG_good zs n hs hd
    have HK1 := hidH k1
    have HK2 := hidH k2
    have ⟨hzl1, hz60, _⟩ := (small_iff zs).1 hs
    have hdd : ((n.toNat : Nat) : Int) = n := by unfold degOk at hd; have := of_decide_eq_true hd; omega
    have hd' : degOk ((n.toNat : Nat) : Int) = true := by rw [hdd]; exact hd
    have HSB := hidH (fun (k : Nat) (hk : k < zs.length) => show segB zs (k : Int) (longN (n.toNat + 1) (zs.drop k) : Nat) n = true from by have h := seg_runB zs n.toNat k hs hd' hk; rw [hdd] at h; exact h)
    have HRA := hidH (fun (k : Nat) (hk : k < zs.length) => show runAns zs (k : Int) n = (longN (n.toNat + 1) (zs.drop k) : Nat) from by have h := runAns_at zs n.toNat k hs hd' hk; rw [hdd] at h; exact h)
    have HLP := hidH (fun k (hk : k < zs.length) => show 1 ≤ longN (n.toNat + 1) (zs.drop k) ∧ k + longN (n.toNat + 1) (zs.drop k) ≤ zs.length from by
      have h1 := longN_pos (n.toNat + 1) (zs.drop k) (by omega) (by rw [List.length_drop]; omega)
      have h2 := longN_le (n.toNat + 1) (zs.drop k)
      rw [List.length_drop] at h2
      omega)
    have HST := hidH (fun k (hk : k < zs.length) => show plG zs n.toNat k = (((longN (n.toNat + 1) (zs.drop k) : Nat) : Int), segP zs (k : Int) (longN (n.toNat + 1) (zs.drop k) : Nat) n) :: plG zs n.toNat (k + longN (n.toNat + 1) (zs.drop k)) from by have h := plG_step zs n.toNat k hk; rw [hdd] at h; exact h)
    have HSE := hidH (plG_end zs n.toNat)
    have HG0 := hidH (show greedyG zs n = plG zs n.toNat 0 from greedyG_yes zs _ hs hd)
    have HK3 := hidH k3
    clear hdd hd' k3
    generalize n.toNat = dd at *
    clear k1 k2 hs hd
    go_wp2_with fail
    refine (greedyW_any _ zs n _ _ _ LZ_1.out).mono ?_; rintro e w2 ⟨p, rfl, hr, hb⟩
    rw [HT.out]
    have B2 := hidH (bThen B1.out hb)
    have s2 := hb.size
    have LZ_2 := hidH (LZ_1.out.below hb)
    have P_2 := hidH hr
    clear hb B1 LZ_1 hr
    obtain ⟨pa, pcap, rfl, hpl, hpc⟩ := P_2.out.form
    unfold maxLen at hpc
    go_wp2_with fail
    refine (sGreedyW_any _ zs n _ _ _ LZ_2.out).mono ?_; rintro e w3 ⟨q, rfl, hr, hb⟩
    rw [HT.out]
    have B3 := hidH (bThen B2.out hb)
    have s3 := hb.size
    have LZ_3 := hidH (LZ_2.out.below hb)
    have P_3 := hidH (P_2.out.below hb)
    have Q_3 := hidH hr
    clear hb B2 LZ_2 P_2 hr
    obtain ⟨qa, qcap, rfl, hql, hqc⟩ := Q_3.out.form
    unfold maxLen at hqc
    generalize hgs : greedyG zs n = gs at *
    have HGS := hidH hgs
    clear hgs
    go_wp2_with fail
    refine (dePlans_yes _ _ gs _ _ _ P_3.out.lies Q_3.out.lies (by omega)).mono ?_; rintro e w4 ⟨rfl, hb⟩
    have B4 := hidH (bThen B3.out hb)
    have s4 := hb.size
    have LZ_4 := hidH (LZ_3.out.below hb)
    have P_4 := hidH (P_3.out.below hb)
    have Q_4 := hidH (Q_3.out.below hb)
    clear hb B3 LZ_3 P_3 Q_3
    go_wp2_with fail
    refine (planValues_any _ gs _ _ P_4.out.lies (by omega)).mono ?_; rintro e w5 ⟨r, rfl, hr, hb⟩
    rw [HK1.out]
    rw [HK2.out] at hr
    have B5 := hidH (bThen B4.out hb)
    have s5 := hb.size
    have LZ_5 := hidH (LZ_4.out.below hb)
    have P_5 := hidH (P_4.out.below hb)
    have Q_5 := hidH (Q_4.out.below hb)
    have R_5 := hidH hr
    clear hb B4 LZ_4 P_4 Q_4 hr
    obtain ⟨ra, rcap, rfl⟩ := R_5.out.some
    go_wp2_with fail
    go_loopw [11, 12] (fun x y wr => ∃ j i : Nat, j ≤ zs.length ∧ i ≤ gs.length ∧ x = .int .i64 j ∧ y = .int .i64 i ∧ Aside (gs.drop i = plG zs dd j) ∧ Below w.heap.size w wr ∧ Below w5.heap.size w5 wr) (fun _ y _ => gs.length - (intOf y).toNat)
    case atStart => exact ⟨0, 0, Nat.zero_le _, Nat.zero_le _, rfl, rfl, (show gs.drop 0 = plG zs dd 0 by rw [List.drop_zero]; exact HG0.out), B5.out, Below.refl _ _⟩
    case round =>
      obtain ⟨j, i, hj, hi, rfl, rfl, hrel, hb, hb2⟩ := hrel
      have HR := hidH hrel
      have HB := hidH hb
      have HB2 := hidH hb2
      have HZr := hidH (LZ_5.out.below hb2)
      have HPr := hidH (P_5.out.lies.below hb2)
      have HRr := hidH (R_5.out.lies.below hb2)
      clear hrel hb hb2
      by_cases hlt : i < gs.length
      · have hjn : j < zs.length := by
          rcases Nat.lt_or_ge j zs.length with h | h
          · exact h
          · have := HR.out.out
            rw [HSE.out j h] at this
            have h2 := congrArg List.length this
            rw [List.length_drop] at h2
            simp at h2
            omega
        have HSTj := hidH (HST.out j hjn)
        have HSBj := hidH (HSB.out j hjn)
        have HRAj := hidH (HRA.out j hjn)
        obtain ⟨hp1, hp2⟩ := HLP.out j hjn
        have HSC := hidH (show segC zs (j : Int) (longN (dd + 1) (zs.drop j) : Nat) n = (longN (dd + 1) (zs.drop j) : Nat) by unfold segC; rw [HSBj.out, if_pos rfl])
        generalize longN (dd + 1) (zs.drop j) = cn at *
        generalize hys : segP zs (j : Int) (cn : Int) n = ys at *
        have HYS := hidH hys
        have hx : gs[i]? = some ((cn : Int), ys) := by
          have h := HR.out.out
          rw [HSTj.out] at h
          have h2 := congrArg (fun l => l[0]?) h
          simp at h2
          exact h2
        have hdr : gs.drop (i + 1) = plG zs dd (j + cn) := by
          have h := HR.out.out
          rw [HSTj.out] at h
          have h2 := congrArg (List.drop 1) h
          rw [List.drop_drop] at h2
          exact h2
        have HDR := hidH hdr
        obtain ⟨b, off, cc1, e, _, _, _, hcl⟩ := HPr.out.addr (by omega)
        injection e with e1 e2 e3
        subst e1; subst e3
        clear e2
        obtain ⟨p, q0, q1, q2⟩ := hcl i _ _ hx
        obtain ⟨pa2, pc2, rfl⟩ := q2.some
        have HYP := hidH q2
        clear hcl hx hdr hys q2
        go_wp2_with fail
        refine (segOf_any _ zs (j : Int) (cn : Int) n _ _ _ HZr.out).mono ?_; rintro e wx ⟨sv, rfl, hr, hb⟩
        rw [HSC.out, HSBj.out]
        rw [HYS.out] at hr
        obtain ⟨sa, scap, rfl⟩ := hr.some
        have HSR := hidH hr
        have HBx := hidH hb
        have q0x := (hb.cell (p := ⟨b, off + i * 2, none⟩) (cell_blk _ _ _ q0)).trans q0
        have q1x := (hb.cell (p := ⟨b, off + i * 2 + 1, none⟩) (cell_blk _ _ _ q1)).trans q1
        clear hr hb q0 q1
        have HZ := hidH (SegAt.fresh wx 0 (.slice none 0 0))
        have HZ4 := hidH ((SegAt.fresh wx 0 (.slice none 0 0)).setRow (cn : Int) (.slice sa ys.length scap))
        have SZ := hidH (seg_size (cn : Int) (.slice sa ys.length scap))
        have SO := hidH (seg_one (cn : Int) sa ys.length scap)
        have hBs : Below wx.heap.size wx ((wx.alloc (.cells #[.int .i64 0, .slice none 0 0] 36)).setRow wx.heap.size #[.int .i64 (cn : Int), .slice sa ys.length scap]) := bRow ((Below.refl _ _).alloc (Nat.le_refl _) _) (Nat.le_refl _) _
        have HBs := hidH hBs
        have q0y := (hBs.cell (p := ⟨b, off + i * 2, none⟩) (cell_blk _ _ _ q0x)).trans q0x
        have q1y := (hBs.cell (p := ⟨b, off + i * 2 + 1, none⟩) (cell_blk _ _ _ q1x)).trans q1x
        clear hBs q0x q1x
        go_upto_region 14 with (refine wpList_store_row rfl 36 _ _ rfl wx.heap.size #[.int .i64 (cn : Int), .slice sa ys.length scap] rfl rfl 36 _ HZ.out SZ.out rfl SO.out ?_)
        generalize ((wx.alloc (.cells #[.int .i64 0, .slice none 0 0] 36)).setRow wx.heap.size #[.int .i64 (cn : Int), .slice sa ys.length scap]) = wx2 at *
        have x0 : wx2.drew.cell? ⟨wx.heap.size, 1, none⟩ = some (.slice sa ys.length scap) := HZ4.out.cell1
        have x1 : wx2.drew.cell? ⟨b, off + i * 2, none⟩ = some (.int .i64 (cn : Int)) := q0y
        have x2 : wx2.drew.cell? ⟨b, off + i * 2 + 1, none⟩ = some (.slice pa2 ys.length pc2) := q1y
        have HBr := hidH (HBx.out.trans (HBs.out.mono HBx.out.size))
        have HE := hidH (fun W (hb : Below wx2.heap.size wx2 W) => deInts_yes (.slice sa ys.length scap) (.slice pa2 ys.length pc2) ys W _ _ _ _ ((HSR.out.lies.below HBs.out).below hb) ((HYP.out.below HBr.out).below hb))
        have hlrr := fun W (hb : Below wx2.heap.size wx2 W) => lrun_any (.slice za zs.length zcap) zs (j : Int) n W _ _ ((HZr.out.below HBr.out).below hb)
        rw [HRAj.out] at hlrr
        have HLR := hidH hlrr
        clear q0y q1y hlrr HZ HZ4 SZ SO
        refine wp_region_held_drew (S := fun w' => w'.cell? ⟨wx.heap.size, 1, none⟩ = some (.slice sa ys.length scap) ∧ w'.cell? ⟨b, off + i * 2, none⟩ = some (.int .i64 (cn : Int)) ∧ w'.cell? ⟨b, off + i * 2 + 1, none⟩ = some (.slice pa2 ys.length pc2)) (by kernel_rfl) ⟨x0, x1, x2⟩ (fun hHeld => ?_)
        try dsimp only
        refine onG 0 (some 79) (v := ?v31_) (by kernel_rfl) (by kernel_rfl) (by kernel_rfl) (fun _ _ _ h => h) (by rfl) hHeld ?hy31_ ?rest31_
        case hy31_ =>
          intro o ho; simp only [List.getElem?_toArray, List.getElem?_cons_zero, Option.some.injEq] at ho; subst ho; intro w hSw; (try dsimp only at hSw)
          go_simp
          try with_reducible rfl
        case rest31_ =>
        try simp only [Act.put, List.setIfInBounds_toArray, List.set_cons_zero, List.set_cons_succ]
        refine onG 1 (some 80) (v := .bool false) (by kernel_rfl) (by kernel_rfl) (by kernel_rfl) (fun _ _ _ h => h) (by rfl) hHeld ?hy32_ ?rest32_
        case hy32_ =>
          intro o ho; simp only [List.getElem?_toArray, List.getElem?_cons_succ, List.getElem?_cons_zero, Option.some.injEq] at ho; subst ho; intro w hSw; (try dsimp only at hSw)
          go_simp
          all_goals (first | done | simp)
        case rest32_ =>
        try simp only [Act.put, List.setIfInBounds_toArray, List.set_cons_zero, List.set_cons_succ]
        refine onG 2 (some 81) (v := .bool false) (by kernel_rfl) (by kernel_rfl) (by kernel_rfl) (fun _ _ _ h => h) (by rfl) hHeld ?hy33_ ?rest33_
        case hy33_ =>
          intro o ho; simp only [List.getElem?_toArray, List.getElem?_cons_succ, List.getElem?_cons_zero, Option.some.injEq] at ho; subst ho; intro w hSw; (try dsimp only at hSw)
          go_simp
          all_goals (first | done | simp)
        case rest33_ =>
        try simp only [Act.put, List.setIfInBounds_toArray, List.set_cons_zero, List.set_cons_succ]
        refine onG 3 (some 82) (v := ?v34_) (by kernel_rfl) (by kernel_rfl) (by kernel_rfl) (fun _ _ _ h => h) (by rfl) hHeld ?hy34_ ?rest34_
        case hy34_ =>
          intro o ho; simp only [List.getElem?_toArray, List.getElem?_cons_succ, List.getElem?_cons_zero, Option.some.injEq] at ho; subst ho; intro w hSw; (try dsimp only at hSw)
          go_simp
          try with_reducible rfl
        case rest34_ =>
        try simp only [Act.put, List.setIfInBounds_toArray, List.set_cons_zero, List.set_cons_succ]
        refine onG 4 (some 83) (v := ?v35_) (by kernel_rfl) (by kernel_rfl) (by kernel_rfl) (fun _ _ _ h => h) (by rfl) hHeld ?hy35_ ?rest35_
        case hy35_ =>
          intro o ho; simp only [List.getElem?_toArray, List.getElem?_cons_succ, List.getElem?_cons_zero, Option.some.injEq] at ho; subst ho; intro w hSw; (try dsimp only at hSw)
          go_simp
          try with_reducible rfl
        case rest35_ =>
        try simp only [Act.put, List.setIfInBounds_toArray, List.set_cons_zero, List.set_cons_succ]
        refine onG 5 (some 84) (v := ?v36_) (by kernel_rfl) (by kernel_rfl) (by kernel_rfl) (fun _ _ _ h => h) (by rfl) hHeld ?hy36_ ?rest36_
        case hy36_ =>
          intro o ho; simp only [List.getElem?_toArray, List.getElem?_cons_succ, List.getElem?_cons_zero, Option.some.injEq] at ho; subst ho; intro w hSw; (try dsimp only at hSw)
          go_simp
          try with_reducible rfl
        case rest36_ =>
        try simp only [Act.put, List.setIfInBounds_toArray, List.set_cons_zero, List.set_cons_succ]
        refine onG 6 (some 85) (v := ?v37_) (by kernel_rfl) (by kernel_rfl) (by kernel_rfl) (fun _ _ _ h => h) (by rfl) hHeld ?hy37_ ?rest37_
        case hy37_ =>
          intro o ho; simp only [List.getElem?_toArray, List.getElem?_cons_succ, List.getElem?_cons_zero, Option.some.injEq] at ho; subst ho; intro w hSw; (try dsimp only at hSw)
          go_simp
          try with_reducible rfl
        case rest37_ =>
        try simp only [Act.put, List.setIfInBounds_toArray, List.set_cons_zero, List.set_cons_succ]
        refine onG 7 (some 86) (v := ?v38_) (by kernel_rfl) (by kernel_rfl) (by kernel_rfl) (fun _ _ _ h => h) (by rfl) hHeld ?hy38_ ?rest38_
        case hy38_ =>
          intro o ho; simp only [List.getElem?_toArray, List.getElem?_cons_succ, List.getElem?_cons_zero, Option.some.injEq] at ho; subst ho; intro w hSw; (try dsimp only at hSw)
          go_simp
          try with_reducible rfl
        case rest38_ =>
        try simp only [Act.put, List.setIfInBounds_toArray, List.set_cons_zero, List.set_cons_succ]
        refine onG 8 (some 87) (v := ?v39_) (by kernel_rfl) (by kernel_rfl) (by kernel_rfl) (fun _ _ _ h => h) (by rfl) hHeld ?hy39_ ?rest39_
        case hy39_ =>
          intro o ho; simp only [List.getElem?_toArray, List.getElem?_cons_succ, List.getElem?_cons_zero, Option.some.injEq] at ho; subst ho; intro w hSw; (try dsimp only at hSw)
          go_simp
          try with_reducible rfl
        case rest39_ =>
        try simp only [Act.put, List.setIfInBounds_toArray, List.set_cons_zero, List.set_cons_succ]
        refine onG 9 (some 88) (v := ?v40_) (by kernel_rfl) (by kernel_rfl) (by kernel_rfl) (fun _ _ _ h => h) (by rfl) hHeld ?hy40_ ?rest40_
        case hy40_ =>
          intro o ho; simp only [List.getElem?_toArray, List.getElem?_cons_succ, List.getElem?_cons_zero, Option.some.injEq] at ho; subst ho; intro w hSw; (try dsimp only at hSw)
          go_simp
          try with_reducible rfl
        case rest40_ =>
        try simp only [Act.put, List.setIfInBounds_toArray, List.set_cons_zero, List.set_cons_succ]
        refine callG 10 (by kernel_rfl) ?_
        intro o ho; simp only [List.getElem?_toArray, List.getElem?_cons_succ, List.getElem?_cons_zero, Option.some.injEq] at ho; subst ho; intro K hK
        go_simp
        go_at_call 14
        (with_reducible refine (HE.out _ ((Below.refl _ wx2).drew)).mono ?_)
        rintro e w8 ⟨rfl, hb⟩
        (have HB8 := hidH ((Below.refl wx2.heap.size wx2).drew.trans (hb.mono (Nat.le_refl _))))
        (have g0 := (hb.cell (p := ⟨wx.heap.size, 1, none⟩) (cell_blk _ _ _ x0)).trans x0)
        (have g1 := (hb.cell (p := ⟨b, off + i * 2, none⟩) (cell_blk _ _ _ x1)).trans x1)
        (have g2 := (hb.cell (p := ⟨b, off + i * 2 + 1, none⟩) (cell_blk _ _ _ x2)).trans x2)
        (clear hb hHeld)
        go_wp2_with fail
        refine hK.out _ _ ?_ (fun hHeld => ?_)
        · exact ⟨g0, g1, g2⟩
        clear hK K
        try simp only [Act.put, List.setIfInBounds_toArray, List.set_cons_zero, List.set_cons_succ]
        refine onG 11 (some 90) (v := .bool false) (by kernel_rfl) (by kernel_rfl) (by kernel_rfl) (fun _ _ _ h => h) (by rfl) hHeld ?hy41_ ?rest41_
        case hy41_ =>
          intro o ho; simp only [List.getElem?_toArray, List.getElem?_cons_succ, List.getElem?_cons_zero, Option.some.injEq] at ho; subst ho; intro w hSw; (try dsimp only at hSw)
          go_simp
          all_goals (first | done | simp)
        case rest41_ =>
        try simp only [Act.put, List.setIfInBounds_toArray, List.set_cons_zero, List.set_cons_succ]
        refine onG 12 (some 91) (v := .bool false) (by kernel_rfl) (by kernel_rfl) (by kernel_rfl) (fun _ _ _ h => h) (by rfl) hHeld ?hy42_ ?rest42_
        case hy42_ =>
          intro o ho; simp only [List.getElem?_toArray, List.getElem?_cons_succ, List.getElem?_cons_zero, Option.some.injEq] at ho; subst ho; intro w hSw; (try dsimp only at hSw)
          go_simp
          all_goals (first | done | simp)
        case rest42_ =>
        try simp only [Act.put, List.setIfInBounds_toArray, List.set_cons_zero, List.set_cons_succ]
        refine onG 13 (some 92) (v := .bool false) (by kernel_rfl) (by kernel_rfl) (by kernel_rfl) (fun _ _ _ h => h) (by rfl) hHeld ?hy43_ ?rest43_
        case hy43_ =>
          intro o ho; simp only [List.getElem?_toArray, List.getElem?_cons_succ, List.getElem?_cons_zero, Option.some.injEq] at ho; subst ho; intro w hSw; (try dsimp only at hSw)
          go_simp
          all_goals (first | done | simp)
        case rest43_ =>
        try simp only [Act.put, List.setIfInBounds_toArray, List.set_cons_zero, List.set_cons_succ]
        refine onG 14 (some 93) (v := ?v44_) (by kernel_rfl) (by kernel_rfl) (by kernel_rfl) (fun _ _ _ h => h) (by rfl) hHeld ?hy44_ ?rest44_
        case hy44_ =>
          intro o ho; simp only [List.getElem?_toArray, List.getElem?_cons_succ, List.getElem?_cons_zero, Option.some.injEq] at ho; subst ho; intro w hSw; (try dsimp only at hSw)
          go_simp
          try with_reducible rfl
        case rest44_ =>
        try simp only [Act.put, List.setIfInBounds_toArray, List.set_cons_zero, List.set_cons_succ]
        refine onG 15 (some 94) (v := ?v45_) (by kernel_rfl) (by kernel_rfl) (by kernel_rfl) (fun _ _ _ h => h) (by rfl) hHeld ?hy45_ ?rest45_
        case hy45_ =>
          intro o ho; simp only [List.getElem?_toArray, List.getElem?_cons_succ, List.getElem?_cons_zero, Option.some.injEq] at ho; subst ho; intro w hSw; (try dsimp only at hSw)
          go_simp
          try with_reducible rfl
        case rest45_ =>
        try simp only [Act.put, List.setIfInBounds_toArray, List.set_cons_zero, List.set_cons_succ]
        refine onG 16 (some 95) (v := ?v46_) (by kernel_rfl) (by kernel_rfl) (by kernel_rfl) (fun _ _ _ h => h) (by rfl) hHeld ?hy46_ ?rest46_
        case hy46_ =>
          intro o ho; simp only [List.getElem?_toArray, List.getElem?_cons_succ, List.getElem?_cons_zero, Option.some.injEq] at ho; subst ho; intro w hSw; (try dsimp only at hSw)
          go_simp
          try with_reducible rfl
        case rest46_ =>
        try simp only [Act.put, List.setIfInBounds_toArray, List.set_cons_zero, List.set_cons_succ]
        refine onG 18 (some 97) (v := ?v47_) (by kernel_rfl) (by kernel_rfl) (by kernel_rfl) (fun _ _ _ h => h) (by rfl) hHeld ?hy47_ ?rest47_
        case hy47_ =>
          intro o ho; simp only [List.getElem?_toArray, List.getElem?_cons_succ, List.getElem?_cons_zero, Option.some.injEq] at ho; subst ho; intro w hSw; (try dsimp only at hSw)
          go_simp
          try with_reducible rfl
        case rest47_ =>
        try simp only [Act.put, List.setIfInBounds_toArray, List.set_cons_zero, List.set_cons_succ]
        refine onG 19 (some 98) (v := ?v48_) (by kernel_rfl) (by kernel_rfl) (by kernel_rfl) (fun _ _ _ h => h) (by rfl) hHeld ?hy48_ ?rest48_
        case hy48_ =>
          intro o ho; simp only [List.getElem?_toArray, List.getElem?_cons_succ, List.getElem?_cons_zero, Option.some.injEq] at ho; subst ho; intro w hSw; (try dsimp only at hSw)
          go_simp
          try with_reducible rfl
        case rest48_ =>
        try simp only [Act.put, List.setIfInBounds_toArray, List.set_cons_zero, List.set_cons_succ]
        refine onG 20 (some 99) (v := ?v49_) (by kernel_rfl) (by kernel_rfl) (by kernel_rfl) (fun _ _ _ h => h) (by rfl) hHeld ?hy49_ ?rest49_
        case hy49_ =>
          intro o ho; simp only [List.getElem?_toArray, List.getElem?_cons_succ, List.getElem?_cons_zero, Option.some.injEq] at ho; subst ho; intro w hSw; (try dsimp only at hSw)
          go_simp
          try with_reducible rfl
        case rest49_ =>
        try simp only [Act.put, List.setIfInBounds_toArray, List.set_cons_zero, List.set_cons_succ]
        refine onG 21 (some 100) (v := ?v50_) (by kernel_rfl) (by kernel_rfl) (by kernel_rfl) (fun _ _ _ h => h) (by rfl) hHeld ?hy50_ ?rest50_
        case hy50_ =>
          intro o ho; simp only [List.getElem?_toArray, List.getElem?_cons_succ, List.getElem?_cons_zero, Option.some.injEq] at ho; subst ho; intro w hSw; (try dsimp only at hSw)
          go_simp
          try with_reducible rfl
        case rest50_ =>
        try simp only [Act.put, List.setIfInBounds_toArray, List.set_cons_zero, List.set_cons_succ]
        refine onG 22 (some 101) (v := ?v51_) (by kernel_rfl) (by kernel_rfl) (by kernel_rfl) (fun _ _ _ h => h) (by rfl) hHeld ?hy51_ ?rest51_
        case hy51_ =>
          intro o ho; simp only [List.getElem?_toArray, List.getElem?_cons_succ, List.getElem?_cons_zero, Option.some.injEq] at ho; subst ho; intro w hSw; (try dsimp only at hSw)
          go_simp
          try with_reducible rfl
        case rest51_ =>
        try simp only [Act.put, List.setIfInBounds_toArray, List.set_cons_zero, List.set_cons_succ]
        refine callG 17 (by kernel_rfl) ?_
        intro o ho; simp only [List.getElem?_toArray, List.getElem?_cons_succ, List.getElem?_cons_zero, Option.some.injEq] at ho; subst ho; intro K hK
        go_simp
        go_at_call 26
        (with_reducible refine (HLR.out _ HB8.out).mono ?_)
        rintro e w9 ⟨rfl, hb⟩
        (have HB9 := hidH (HB8.out.trans (hb.mono HB8.out.size)))
        (have f0 := (hb.cell (p := ⟨wx.heap.size, 1, none⟩) (cell_blk _ _ _ g0)).trans g0)
        (have f1 := (hb.cell (p := ⟨b, off + i * 2, none⟩) (cell_blk _ _ _ g1)).trans g1)
        (have f2 := (hb.cell (p := ⟨b, off + i * 2 + 1, none⟩) (cell_blk _ _ _ g2)).trans g2)
        (clear hb hHeld)
        go_wp2_with fail
        refine hK.out _ _ ?_ (fun hHeld => ?_)
        · exact ⟨f0, f1, f2⟩
        clear hK K
        try simp only [Act.put, List.setIfInBounds_toArray, List.set_cons_zero, List.set_cons_succ]
        refine onG 23 (some 102) (v := ?v52_) (by kernel_rfl) (by kernel_rfl) (by kernel_rfl) (fun _ _ _ h => h) (by rfl) hHeld ?hy52_ ?rest52_
        case hy52_ =>
          intro o ho; simp only [List.getElem?_toArray, List.getElem?_cons_succ, List.getElem?_cons_zero, Option.some.injEq] at ho; subst ho; intro w hSw; (try dsimp only at hSw)
          go_simp
          try with_reducible rfl
        case rest52_ =>
        try simp only [Act.put, List.setIfInBounds_toArray, List.set_cons_zero, List.set_cons_succ]
        refine onG 24 (some 103) (v := ?v53_) (by kernel_rfl) (by kernel_rfl) (by kernel_rfl) (fun _ _ _ h => h) (by rfl) hHeld ?hy53_ ?rest53_
        case hy53_ =>
          intro o ho; simp only [List.getElem?_toArray, List.getElem?_cons_succ, List.getElem?_cons_zero, Option.some.injEq] at ho; subst ho; intro w hSw; (try dsimp only at hSw)
          go_simp
          try with_reducible rfl
        case rest53_ =>
        try simp only [Act.put, List.setIfInBounds_toArray, List.set_cons_zero, List.set_cons_succ]
        refine wpAnyH_done (by kernel_rfl) ?_ _
        have c1 := f1
        go_wp2_with fail
        go_roundw
        case rel => exact ⟨j + cn, i + 1, by omega, by omega, by go_num, by go_num, HDR.out, HB.out.trans ((HBr.out.trans (HB9.out.mono HBr.out.size)).mono HB.out.size), HB2.out.trans ((HBr.out.trans (HB9.out.mono HBr.out.size)).mono HB2.out.size)⟩
        case measure => simp [intOf]; omega
      · have hie : i = gs.length := by omega
        have HIE := hidH hie
        clear hie
        have HDE := hidH (fun W (hb : Below _ _ W) => deInts_yes (.slice ra zs.length rcap) (.slice za zs.length zcap) zs W _ _ _ _ (HRr.out.below hb) (HZr.out.below hb))
        have HPD := hidH (fun W (hb : Below _ _ W) => planDegree_any _ gs W _ (HPr.out.below hb) (by omega))
        generalize pdegA gs = pd at *
        have hpdn : decide (pd ≤ n) = true := decide_eq_true HK3.out
        go_wp2_with fail
        refine (HDE.out _ (Below.refl _ _)).mono ?_; rintro e wy ⟨rfl, hb⟩
        have HBy := hidH hb
        clear hb
        go_wp2_with fail
        refine (HPD.out _ HBy.out).mono ?_; rintro e wz ⟨rfl, hb⟩
        have HBz := hidH (HBy.out.trans (hb.mono HBy.out.size))
        clear hb
        go_wp2_with fail
        go_ret
        exact ⟨rfl, HB.out.trans (HBz.out.mono HB.out.size)⟩
end Go.Proofs.Ytmmcdmnmhpbehaa
