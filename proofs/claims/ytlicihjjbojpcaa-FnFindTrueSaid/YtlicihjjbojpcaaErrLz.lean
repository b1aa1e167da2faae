/-
  The walk of a law: a table has no error exactly if it is clean, and without the error that is found it is. No conditions but that the bytes that came in can be read.
-/
import Derived.Test.YtlicihjjbojpcaaErrKy
import Derived.Test.YtlicihjjbojpcaaErrPm
import Derived.Test.YtlicihjjbojpcaaErrW
import Derived.Test.YtlicihjjbojpcaaDeFns
import Derived.Deep.RegionHeld3
namespace Go.Proofs.Ytlicihjjbojpcaa
set_option maxRecDepth 4000
open Go.RowKit
/-- What a search tells, and what it means. -/
theorem find_cases (zs : List Int) (d : Int) : (findKd zs d = 0 ∧ findAt zs d = 0 ∧ findAm zs d = 0 ∧ cleanB zs d = true ∧ corrA zs d = zs ∧ corrB zs d = true) ∨
    (findKd zs d = 1 ∧ corrB zs d = true ∧ findAm zs d ≠ 0 ∧ (findAm zs d).natAbs ≤ 1000000000000 ∧ cleanB zs d = false ∧ tableOk zs = true ∧ (tableOk (corrA zs d) = true → cleanB (corrA zs d) d = true) ∧ ∃ (k : Nat) (z : Int), findAt zs d = (k : Int) ∧ zs[k]? = some z ∧ corrA zs d = zs.set k (z - findAm zs d)) ∨
    (findKd zs d = 2 ∧ findAt zs d = 0 ∧ findAm zs d = 0 ∧ cleanB zs d = false ∧ corrA zs d = [] ∧ corrB zs d = false) ∨
    (findKd zs d = 3 ∧ findAt zs d = 0 ∧ findAm zs d = 0 ∧ corrA zs d = [] ∧ corrB zs d = false) := by
  cases h : findOk zs d
  · have hk : findKd zs d = 3 := by unfold findKd; rw [h]; rfl
    have hc := corr_not zs d (.inr hk)
    exact .inr (.inr (.inr ⟨hk, by unfold findAt; rw [h]; rfl, by unfold findAm; rw [h]; rfl, hc.1, hc.2⟩))
  · have h2 := h
    unfold findOk at h2
    rw [Bool.and_eq_true, Bool.and_eq_true] at h2
    obtain ⟨ht, hdk, hlk⟩ := h2
    have hd := of_decide_eq_true hdk
    have hl := of_decide_eq_true hlk
    have hA : findAt zs d = findA (findRow zs d) (d.toNat + 1) := by unfold findAt; rw [h]; rfl
    have hM : findAm zs d = findM (findRow zs d) (d.toNat + 1) := by unfold findAm; rw [h]; rfl
    have hK : findKd zs d = findK (findRow zs d) (d.toNat + 1) := by unfold findKd; rw [h]; rfl
    have hcl : cleanB zs d = zeroOk (findRow zs d) := by unfold cleanB; rw [ht, hdk, Bool.true_and, Bool.true_and]; rfl
    have hlen : (findRow zs d).length = zs.length - (d.toNat + 1) := difN_length _ _
    cases hz : zeroOk (findRow zs d)
    · rw [hz] at hcl
      cases hf : findO (findRow zs d) (d.toNat + 1) with
      | none =>
        obtain ⟨e1, e2, e3⟩ := find_miss hz hf
        have hk2 : findKd zs d = 2 := by rw [hK, e3]
        have hc := corr_not zs d (.inl hk2)
        exact .inr (.inr (.inl ⟨hk2, by rw [hA, e1], by rw [hM, e2], hcl, hc.1, hc.2⟩))
      | some k =>
        obtain ⟨e1, e2, e3⟩ := find_hit hz hf
        have hks := seekE_some _ _ _ _ _ hf
        rw [hlen] at hks
        have hkl : k < zs.length := by omega
        obtain ⟨z, hzz⟩ := get_lt zs k hkl
        have hk1 : findKd zs d = 1 := by rw [hK, e3]
        have hbd := (guess_bd (findRow zs d) (d.toNat + 1) k 1000000000000 (findRow_bd zs d ht (by omega))).1
        have hex := hks.2.2
        unfold explB at hex
        rw [Bool.and_eq_true] at hex
        have hg0 := of_decide_eq_true hex.1
        have hrow := of_decide_eq_true hex.2
        have hco : corrA zs d = putL zs k (-(findAm zs d)) := by unfold corrA; rw [if_neg (by omega), if_pos hk1, hA, e1, Int.toNat_natCast]
        refine .inr (.inl ⟨hk1, decide_eq_true (.inr hk1), by rw [hM, e2]; exact hg0, by rw [hM, e2]; exact hbd, hcl, ht, fun hx => ?_, k, z, by rw [hA, e1], hzz, by rw [hco, putL, getD_of hzz, Int.sub_eq_add_neg]⟩)
        rw [hco] at hx ⊢
        unfold cleanB
        rw [hx, hdk, Bool.true_and, Bool.true_and]
        unfold zeroOk
        simp
        intro v hv
        obtain ⟨i, hi⟩ := List.mem_iff_getElem?.1 hv
        have hil : i < zs.length - (d.toNat + 1) := by have := (List.getElem?_eq_some_iff.1 hi).1; rwa [difN_length, putL_length] at this
        obtain ⟨u, hu⟩ := get_lt (findRow zs d) i (by rw [hlen]; exact hil)
        have hu2 : u = coefN (d.toNat + 1) k i * guessN (findRow zs d) (d.toNat + 1) k := by
          rw [hrow, errL_get _ _ _ _ i (by rw [hlen]; exact hil)] at hu
          injection hu with hu
          exact hu.symm
        have := err_adds zs k (-(findAm zs d)) hkl (tab_abs zs ht) (tab_abs _ hx) (d.toNat + 1) (by omega) i u v hu hi
        rw [this, hu2, hM, e2, Int.mul_neg]
        omega
    · rw [hz] at hcl
      obtain ⟨e1, e2, e3⟩ := find_zero (row := findRow zs d) (o := d.toNat + 1) hz
      have hk0 : findKd zs d = 0 := by rw [hK, e3]
      exact .inl ⟨hk0, by rw [hA, e1], by rw [hM, e2], hcl, by unfold corrA; rw [if_pos hk0], decide_eq_true (.inl hk0)⟩
set_option maxHeartbeats 2000000 in
theorem lawFindTrue (a : Option Addr) (len cap : Nat) (w : World) (hc : Came w a len cap) : Calls Try.prog 3 #[.slice a len cap] w (Gives (.bool true) w) := by
  have hcap := hc.lenLe
  have hcap2 := hc.capLe
  unfold maxLen at hcap2
  by_cases hbig : 1048576 < len
  · clear hc
    go_enter Try.func3, Try.ntmps3
    go_wp2
    go_ret
    exact ⟨rfl, Below.refl _ _⟩
  · have HD := hidH (drawFindError a len cap w hc (by omega))
    clear hc
    go_enter Try.func3, Try.ntmps3
    go_wp2_with fail
    refine HD.out.mono ?_
    rintro e w1 ⟨v, zs, d, rfl, hv, h61, hB⟩
    have V_1 := hidH hv
    have B1 := hidH hB
    have C1 := hidH (Below.refl w1.heap.size w1)
    obtain ⟨av, cv, rfl, hlv, hcv, _, hcellv⟩ := hv
    have HCV := hidH hcellv
    unfold maxLen at hcv
    clear hB HD hcellv
    rcases find_cases zs d with ⟨e1, e2, e3, e4, e5, e6⟩ | ⟨e1, e6, ea, eb, e4, ht, ecl, k, z, e2, hz, e5⟩ | ⟨e1, e2, e3, e4, e5, e6⟩ | ⟨e1, e2, e3, e5, e6⟩
    · have E1 := hidH e2
      have E2 := hidH e3
      have E3 := hidH e1
      have EC := hidH e5
      have EB := hidH e6
      have E4 := hidH e4
      clear e1 e2 e3 e4 e5 e6
      go_wp2_with fail
      refine (find_any (.slice av zs.length cv) zs d w1 _ _ V_1.out).mono ?_; rintro e w2 ⟨rfl, hb⟩
      have B2 := hidH (B1.out.trans (hb.mono B1.out.size))
      have C2 := hidH (C1.out.trans (hb.mono C1.out.size))
      have V_2 := hidH (V_1.out.below hb)
      clear hb B1 C1 V_1
      go_wp2_with fail
      refine (sFind_any (.slice av zs.length cv) zs d w2 _ _ V_2.out).mono ?_; rintro e w3 ⟨rfl, hb⟩
      have B3 := hidH (B2.out.trans (hb.mono B2.out.size))
      have C3 := hidH (C2.out.trans (hb.mono C2.out.size))
      have V_3 := hidH (V_2.out.below hb)
      clear hb B2 C2 V_2
      rw [E1.out, E2.out, E3.out]
      go_wp2_with fail
      refine (corr_any (.slice av zs.length cv) zs d w3 _ _ V_3.out).mono ?_; rintro e w4 ⟨xv, rfl, hr, hb⟩
      have B4 := hidH (B3.out.trans (hb.mono B3.out.size))
      have C4 := hidH (C3.out.trans (hb.mono C3.out.size))
      have V_4 := hidH (V_3.out.below hb)
      have X_4 := hidH hr
      clear hb hr B3 C3 V_3
      rw [EB.out]
      rw [EC.out] at X_4
      go_wp2_with fail
      refine (sCorr_any (.slice av zs.length cv) zs d w4 _ _ V_4.out).mono ?_; rintro e w5 ⟨sv, rfl, hr, hb⟩
      have B5 := hidH (B4.out.trans (hb.mono B4.out.size))
      have C5 := hidH (C4.out.trans (hb.mono C4.out.size))
      have V_5 := hidH (V_4.out.below hb)
      have X_5 := hidH (X_4.out.below hb)
      have S_5 := hidH hr
      clear hb hr B4 C4 V_4 X_4
      rw [EC.out] at S_5
      go_wp2_with fail
      refine (deInts_yes xv sv zs _ _ _ _ _ X_5.out.lies S_5.out.lies).mono ?_; rintro e w6 ⟨rfl, hb⟩
      have B6 := hidH (B5.out.trans (hb.mono B5.out.size))
      have C6 := hidH (C5.out.trans (hb.mono C5.out.size))
      have V_6 := hidH (V_5.out.below hb)
      have X_6 := hidH (X_5.out.below hb)
      have S_6 := hidH (S_5.out.below hb)
      clear hb B5 C5 V_5 X_5 S_5
      clear S_6
      go_wp2_with fail
      refine (clean_any (.slice av zs.length cv) zs d w6 _ _ V_6.out).mono ?_; rintro e w7 ⟨rfl, hb⟩
      have B7 := hidH (B6.out.trans (hb.mono B6.out.size))
      have C7 := hidH (C6.out.trans (hb.mono C6.out.size))
      have V_7 := hidH (V_6.out.below hb)
      have X_7 := hidH (X_6.out.below hb)
      clear hb B6 C6 V_6 X_6
      rw [E4.out]
      go_wp2_with fail
      refine (deInts_yes xv (.slice av zs.length cv) zs _ _ _ _ _ X_7.out.lies V_7.out).mono ?_; rintro e w8 ⟨rfl, hb⟩
      have B8 := hidH (B7.out.trans (hb.mono B7.out.size))
      have C8 := hidH (C7.out.trans (hb.mono C7.out.size))
      have V_8 := hidH (V_7.out.below hb)
      have X_8 := hidH (X_7.out.below hb)
      clear hb B7 C7 V_7 X_7
      go_wp2_with fail
      go_ret
      exact ⟨rfl, B8.out⟩
    · have E1 := hidH e2
      have E3 := hidH e1
      have EC := hidH e5
      have EB := hidH e6
      have E4 := hidH e4
      have EA := hidH ea
      have ECL := hidH ecl
      have HZ := hidH hz
      have hkl : k < zs.length := (List.getElem?_eq_some_iff.1 hz).1
      have ⟨hzb1, hzb2⟩ := tab_bd ht hz
      have hxz : (zs.set k (z - findAm zs d))[k]? = some (z - findAm zs d) := List.getElem?_set_self hkl
      have hxl : (zs.set k (z - findAm zs d)).length = zs.length := List.length_set ..
      have HXZ := hidH hxz
      rw [e5] at ECL
      have hb1 : -1000000000000 ≤ findAm zs d := by omega
      have hb2 : findAm zs d ≤ 1000000000000 := by omega
      have hxk : k < (zs.set k (z - findAm zs d)).length := by rw [hxl]; exact hkl
      clear e1 e2 e4 e5 e6 ea eb ecl ht hz hxz hxl
      generalize zs.set k (z - findAm zs d) = xs at *
      obtain ⟨am, hE2⟩ : ∃ q, findAm zs d = q := ⟨_, rfl⟩
      rw [hE2] at EA hb1 hb2 HXZ
      have E2 := hidH hE2
      clear hE2
      go_wp2_with fail
      refine (find_any (.slice av zs.length cv) zs d w1 _ _ V_1.out).mono ?_; rintro e w2 ⟨rfl, hb⟩
      have B2 := hidH (B1.out.trans (hb.mono B1.out.size))
      have C2 := hidH (C1.out.trans (hb.mono C1.out.size))
      have V_2 := hidH (V_1.out.below hb)
      clear hb B1 C1 V_1
      go_wp2_with fail
      refine (sFind_any (.slice av zs.length cv) zs d w2 _ _ V_2.out).mono ?_; rintro e w3 ⟨rfl, hb⟩
      have B3 := hidH (B2.out.trans (hb.mono B2.out.size))
      have C3 := hidH (C2.out.trans (hb.mono C2.out.size))
      have V_3 := hidH (V_2.out.below hb)
      clear hb B2 C2 V_2
      rw [E1.out, E2.out, E3.out]
      go_wp2_with fail
      refine (corr_any (.slice av zs.length cv) zs d w3 _ _ V_3.out).mono ?_; rintro e w4 ⟨xv, rfl, hr, hb⟩
      have B4 := hidH (B3.out.trans (hb.mono B3.out.size))
      have C4 := hidH (C3.out.trans (hb.mono C3.out.size))
      have V_4 := hidH (V_3.out.below hb)
      have X_4 := hidH hr
      clear hb hr B3 C3 V_3
      rw [EB.out]
      rw [EC.out] at X_4
      go_wp2_with fail
      refine (sCorr_any (.slice av zs.length cv) zs d w4 _ _ V_4.out).mono ?_; rintro e w5 ⟨sv, rfl, hr, hb⟩
      have B5 := hidH (B4.out.trans (hb.mono B4.out.size))
      have C5 := hidH (C4.out.trans (hb.mono C4.out.size))
      have V_5 := hidH (V_4.out.below hb)
      have X_5 := hidH (X_4.out.below hb)
      have S_5 := hidH hr
      clear hb hr B4 C4 V_4 X_4
      rw [EC.out] at S_5
      go_wp2_with fail
      refine (deInts_yes xv sv xs _ _ _ _ _ X_5.out.lies S_5.out.lies).mono ?_; rintro e w6 ⟨rfl, hb⟩
      have B6 := hidH (B5.out.trans (hb.mono B5.out.size))
      have C6 := hidH (C5.out.trans (hb.mono C5.out.size))
      have V_6 := hidH (V_5.out.below hb)
      have X_6 := hidH (X_5.out.below hb)
      have S_6 := hidH (S_5.out.below hb)
      clear hb B5 C5 V_5 X_5 S_5
      clear S_6
      obtain ⟨pb, pc, rfl, hpc, hpm, _, _, hpk⟩ := X_6.out.blk (by omega)
      unfold maxLen at hpm
      obtain ⟨vb, vo, hav, _, _, hcz0⟩ := HCV.out k z HZ.out
      subst hav
      have hvlt := cell_blk _ _ _ hcz0
      have hcz : w6.cell? ⟨vb, vo + k, none⟩ = some (.int .i64 z) := by rw [C6.out.cell (p := ⟨vb, vo + k, none⟩) hvlt]; exact hcz0
      have hcx := (hpk.2 k (z - am) HXZ.out).1
      have hplt := hpk.1
      have HCZ := hidH hcz
      have HCX := hidH hcx
      have hvl2 : vb < w6.heap.size := Nat.lt_of_lt_of_le hvlt C6.out.size
      have HKV := hidH fun (W : World) (hb : Below w6.heap.size w6 W) => (clean_any (.slice (some ⟨vb, vo, none⟩) zs.length cv) zs d W _ _ (V_6.out.below hb)).mono fun e w' (h : Gives _ W e w') => (⟨by rw [h.1, E4.out], hb.trans (h.2.mono hb.size)⟩ : e = .returned (.bool false) ∧ Below w6.heap.size w6 w')
      have HTX := hidH fun (W : World) (hb : Below w6.heap.size w6 W) => (tableValid_any (.slice (some ⟨pb, 0, none⟩) xs.length pc) xs W _ _ (X_6.out.below hb).lies).mono fun e w' (h : Gives _ W e w') => (⟨h.1, hb.trans (h.2.mono hb.size)⟩ : e = .returned (.bool (tableOk xs)) ∧ Below w6.heap.size w6 w')
      have HKX := hidH fun (W : World) (hb : Below w6.heap.size w6 W) => (clean_any (.slice (some ⟨pb, 0, none⟩) xs.length pc) xs d W _ _ (X_6.out.below hb).lies).mono fun e w' (h : Gives _ W e w') => (⟨h.1, hb.trans (h.2.mono hb.size)⟩ : e = .returned (.bool (cleanB xs d)) ∧ Below w6.heap.size w6 w')
      have HBc := hidH (Below.refl w6.heap.size w6)
      have hw : IntKind.i64.wrap (z - am) = z - am := IntWalk.i64_in _ (by omega)
      have ham : (am != 0) = true := bne_iff_ne.2 EA.out
      have ham2 : (am == 0) = false := beq_eq_false_iff_ne.2 EA.out
      clear hpk hcz0
      cases htx : tableOk xs
      · rw [htx] at HTX
        clear htx ECL
        go_wp2_with fail
        first | (go_region_held (fun w' => w'.cell? ⟨vb, vo + k, none⟩ = some (.int .i64 z) ∧ w'.cell? ⟨pb, k, none⟩ = some (.int .i64 (z - am)))
          (first | exact ⟨hcz, hcx⟩ | go_keep)
          (first
          | (go_at_call 15; (with_reducible refine (HKV.out _ (by first | exact HBc.out | exact HBc.out.drew)).mono ?_); rintro e wd ⟨rfl, hbd⟩; have HBc := hidH hbd; have hcz : wd.cell? ⟨vb, vo + k, none⟩ = some (.int .i64 z) := (by rw [HBc.out.cell (p := ⟨vb, vo + k, none⟩) hvl2]; exact HCZ.out); have hcx : wd.cell? ⟨pb, k, none⟩ = some (.int .i64 (z - am)) := (by rw [HBc.out.cell (p := ⟨pb, k, none⟩) hplt]; exact HCX.out); clear hbd)
          | (go_at_call 16; (with_reducible refine (HTX.out _ (by first | exact HBc.out | exact HBc.out.drew)).mono ?_); rintro e wd ⟨rfl, hbd⟩; have HBc := hidH hbd; have hcz : wd.cell? ⟨vb, vo + k, none⟩ = some (.int .i64 z) := (by rw [HBc.out.cell (p := ⟨vb, vo + k, none⟩) hvl2]; exact HCZ.out); have hcx : wd.cell? ⟨pb, k, none⟩ = some (.int .i64 (z - am)) := (by rw [HBc.out.cell (p := ⟨pb, k, none⟩) hplt]; exact HCX.out); clear hbd)
          | (go_at_call 15; (with_reducible refine (HKX.out _ (by first | exact HBc.out | exact HBc.out.drew)).mono ?_); rintro e wd ⟨rfl, hbd⟩; have HBc := hidH hbd; have hcz : wd.cell? ⟨vb, vo + k, none⟩ = some (.int .i64 z) := (by rw [HBc.out.cell (p := ⟨vb, vo + k, none⟩) hvl2]; exact HCZ.out); have hcx : wd.cell? ⟨pb, k, none⟩ = some (.int .i64 (z - am)) := (by rw [HBc.out.cell (p := ⟨pb, k, none⟩) hplt]; exact HCX.out); clear hbd))) | fail
        all_goals (go_wp2_with fail; go_ret; exact ⟨rfl, B6.out.trans (HBc.out.mono B6.out.size)⟩)
      · rw [htx] at HTX
        rw [ECL.out htx] at HKX
        clear htx ECL
        go_wp2_with fail
        first | (go_region_held3 (fun w' => w'.cell? ⟨vb, vo + k, none⟩ = some (.int .i64 z) ∧ w'.cell? ⟨pb, k, none⟩ = some (.int .i64 (z - am)))
          (first | exact ⟨hcz, hcx⟩ | go_keep)
          (first
          | (go_at_call 15; (with_reducible refine (HKV.out _ (by first | exact HBc.out | exact HBc.out.drew)).mono ?_); rintro e wd ⟨rfl, hbd⟩; have HBc := hidH hbd; have hcz : wd.cell? ⟨vb, vo + k, none⟩ = some (.int .i64 z) := (by rw [HBc.out.cell (p := ⟨vb, vo + k, none⟩) hvl2]; exact HCZ.out); have hcx : wd.cell? ⟨pb, k, none⟩ = some (.int .i64 (z - am)) := (by rw [HBc.out.cell (p := ⟨pb, k, none⟩) hplt]; exact HCX.out); clear hbd)
          | (go_at_call 16; (with_reducible refine (HTX.out _ (by first | exact HBc.out | exact HBc.out.drew)).mono ?_); rintro e wd ⟨rfl, hbd⟩; have HBc := hidH hbd; have hcz : wd.cell? ⟨vb, vo + k, none⟩ = some (.int .i64 z) := (by rw [HBc.out.cell (p := ⟨vb, vo + k, none⟩) hvl2]; exact HCZ.out); have hcx : wd.cell? ⟨pb, k, none⟩ = some (.int .i64 (z - am)) := (by rw [HBc.out.cell (p := ⟨pb, k, none⟩) hplt]; exact HCX.out); clear hbd)
          | (go_at_call 15; (with_reducible refine (HKX.out _ (by first | exact HBc.out | exact HBc.out.drew)).mono ?_); rintro e wd ⟨rfl, hbd⟩; have HBc := hidH hbd; have hcz : wd.cell? ⟨vb, vo + k, none⟩ = some (.int .i64 z) := (by rw [HBc.out.cell (p := ⟨vb, vo + k, none⟩) hvl2]; exact HCZ.out); have hcx : wd.cell? ⟨pb, k, none⟩ = some (.int .i64 (z - am)) := (by rw [HBc.out.cell (p := ⟨pb, k, none⟩) hplt]; exact HCX.out); clear hbd))) | fail
        all_goals (go_wp2_with fail; go_ret; exact ⟨rfl, B6.out.trans (HBc.out.mono B6.out.size)⟩)
    · have E1 := hidH e2
      have E2 := hidH e3
      have E3 := hidH e1
      have EC := hidH e5
      have EB := hidH e6
      have E4 := hidH e4
      clear e1 e2 e3 e4 e5 e6
      go_wp2_with fail
      refine (find_any (.slice av zs.length cv) zs d w1 _ _ V_1.out).mono ?_; rintro e w2 ⟨rfl, hb⟩
      have B2 := hidH (B1.out.trans (hb.mono B1.out.size))
      have C2 := hidH (C1.out.trans (hb.mono C1.out.size))
      have V_2 := hidH (V_1.out.below hb)
      clear hb B1 C1 V_1
      go_wp2_with fail
      refine (sFind_any (.slice av zs.length cv) zs d w2 _ _ V_2.out).mono ?_; rintro e w3 ⟨rfl, hb⟩
      have B3 := hidH (B2.out.trans (hb.mono B2.out.size))
      have C3 := hidH (C2.out.trans (hb.mono C2.out.size))
      have V_3 := hidH (V_2.out.below hb)
      clear hb B2 C2 V_2
      rw [E1.out, E2.out, E3.out]
      go_wp2_with fail
      refine (corr_any (.slice av zs.length cv) zs d w3 _ _ V_3.out).mono ?_; rintro e w4 ⟨xv, rfl, hr, hb⟩
      have B4 := hidH (B3.out.trans (hb.mono B3.out.size))
      have C4 := hidH (C3.out.trans (hb.mono C3.out.size))
      have V_4 := hidH (V_3.out.below hb)
      have X_4 := hidH hr
      clear hb hr B3 C3 V_3
      rw [EB.out]
      rw [EC.out] at X_4
      go_wp2_with fail
      refine (sCorr_any (.slice av zs.length cv) zs d w4 _ _ V_4.out).mono ?_; rintro e w5 ⟨sv, rfl, hr, hb⟩
      have B5 := hidH (B4.out.trans (hb.mono B4.out.size))
      have C5 := hidH (C4.out.trans (hb.mono C4.out.size))
      have V_5 := hidH (V_4.out.below hb)
      have X_5 := hidH (X_4.out.below hb)
      have S_5 := hidH hr
      clear hb hr B4 C4 V_4 X_4
      rw [EC.out] at S_5
      go_wp2_with fail
      refine (deInts_yes xv sv [] _ _ _ _ _ X_5.out.lies S_5.out.lies).mono ?_; rintro e w6 ⟨rfl, hb⟩
      have B6 := hidH (B5.out.trans (hb.mono B5.out.size))
      have C6 := hidH (C5.out.trans (hb.mono C5.out.size))
      have V_6 := hidH (V_5.out.below hb)
      have X_6 := hidH (X_5.out.below hb)
      have S_6 := hidH (S_5.out.below hb)
      clear hb B5 C5 V_5 X_5 S_5
      clear S_6
      go_wp2_with fail
      refine (clean_any (.slice av zs.length cv) zs d w6 _ _ V_6.out).mono ?_; rintro e w7 ⟨rfl, hb⟩
      have B7 := hidH (B6.out.trans (hb.mono B6.out.size))
      have C7 := hidH (C6.out.trans (hb.mono C6.out.size))
      have V_7 := hidH (V_6.out.below hb)
      have X_7 := hidH (X_6.out.below hb)
      clear hb B6 C6 V_6 X_6
      rw [E4.out]
      go_wp2_with fail
      go_ret
      exact ⟨rfl, B7.out⟩
    · have E1 := hidH e2
      have E2 := hidH e3
      have E3 := hidH e1
      have EC := hidH e5
      have EB := hidH e6
      clear e1 e2 e3 e5 e6
      go_wp2_with fail
      refine (find_any (.slice av zs.length cv) zs d w1 _ _ V_1.out).mono ?_; rintro e w2 ⟨rfl, hb⟩
      have B2 := hidH (B1.out.trans (hb.mono B1.out.size))
      have C2 := hidH (C1.out.trans (hb.mono C1.out.size))
      have V_2 := hidH (V_1.out.below hb)
      clear hb B1 C1 V_1
      go_wp2_with fail
      refine (sFind_any (.slice av zs.length cv) zs d w2 _ _ V_2.out).mono ?_; rintro e w3 ⟨rfl, hb⟩
      have B3 := hidH (B2.out.trans (hb.mono B2.out.size))
      have C3 := hidH (C2.out.trans (hb.mono C2.out.size))
      have V_3 := hidH (V_2.out.below hb)
      clear hb B2 C2 V_2
      rw [E1.out, E2.out, E3.out]
      go_wp2_with fail
      refine (corr_any (.slice av zs.length cv) zs d w3 _ _ V_3.out).mono ?_; rintro e w4 ⟨xv, rfl, hr, hb⟩
      have B4 := hidH (B3.out.trans (hb.mono B3.out.size))
      have C4 := hidH (C3.out.trans (hb.mono C3.out.size))
      have V_4 := hidH (V_3.out.below hb)
      have X_4 := hidH hr
      clear hb hr B3 C3 V_3
      rw [EB.out]
      rw [EC.out] at X_4
      go_wp2_with fail
      refine (sCorr_any (.slice av zs.length cv) zs d w4 _ _ V_4.out).mono ?_; rintro e w5 ⟨sv, rfl, hr, hb⟩
      have B5 := hidH (B4.out.trans (hb.mono B4.out.size))
      have C5 := hidH (C4.out.trans (hb.mono C4.out.size))
      have V_5 := hidH (V_4.out.below hb)
      have X_5 := hidH (X_4.out.below hb)
      have S_5 := hidH hr
      clear hb hr B4 C4 V_4 X_4
      rw [EC.out] at S_5
      go_wp2_with fail
      refine (deInts_yes xv sv [] _ _ _ _ _ X_5.out.lies S_5.out.lies).mono ?_; rintro e w6 ⟨rfl, hb⟩
      have B6 := hidH (B5.out.trans (hb.mono B5.out.size))
      have C6 := hidH (C5.out.trans (hb.mono C5.out.size))
      have V_6 := hidH (V_5.out.below hb)
      have X_6 := hidH (X_5.out.below hb)
      have S_6 := hidH (S_5.out.below hb)
      clear hb B5 C5 V_5 X_5 S_5
      clear S_6
      go_wp2_with fail
      go_ret
      exact ⟨rfl, B6.out⟩
end Go.Proofs.Ytlicihjjbojpcaa
