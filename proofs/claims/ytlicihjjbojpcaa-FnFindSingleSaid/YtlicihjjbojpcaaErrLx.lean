/-
  The walk of a law: a single error of a clean table is found and corrected. No conditions but that the bytes that came in can be read.
-/
import Derived.Test.YtlicihjjbojpcaaErrKd
import Derived.Test.YtlicihjjbojpcaaErrPm
import Derived.Test.YtlicihjjbojpcaaErrW
import Derived.Test.YtlicihjjbojpcaaErrLq
import Derived.Test.YtlicihjjbojpcaaDeFns
namespace Go.Proofs.Ytlicihjjbojpcaa
set_option maxRecDepth 4000
open Go.RowKit
theorem zero_err0 (o k L : Nat) : zeroOk (errL o k 0 L) = true := by
  unfold zeroOk
  simp
  intro x hx
  obtain ⟨j, hj⟩ := List.mem_iff_getElem?.1 hx
  have hl := (List.getElem?_eq_some_iff.1 hj).1
  rw [errL_length] at hl
  rw [errL_get o k 0 L j hl] at hj
  simpa using hj.symm
theorem zero_errN (o k L : Nat) (a : Int) (ho : o ≤ 7) (ha : a ≠ 0) (hk : k < L + o) (hL : 0 < L) : zeroOk (errL o k a L) = false := by
  cases hz : zeroOk (errL o k a L)
  · rfl
  · have hf := errL_first o k a L ho ha hk hL
    have hlt : k - o < L := by omega
    have hg := errL_get o k a L (k - o) hlt
    have h0 : coefN o k (k - o) * a = 0 := by
      unfold zeroOk at hz
      simp at hz
      exact hz _ (List.mem_of_getElem? hg)
    exact absurd h0 (Int.mul_ne_zero (coef_first o k ho) ha)
theorem set_back (zs : List Int) (k : Nat) (a : Int) (hk : k < zs.length) : putL (putL zs k a) k (-a) = zs := by
  obtain ⟨z, hz⟩ := get_lt zs k hk
  unfold putL
  rw [getD_of hz]
  have h1 : (zs.set k (z + a))[k]? = some (z + a) := by rw [List.getElem?_set, if_pos rfl, if_pos hk]
  rw [getD_of h1]
  refine List.ext_getElem? fun i => ?_
  rw [List.getElem?_set, List.length_set]
  split
  · rename_i e; subst e
    rw [hz]; congr 1; omega
  · rename_i e
    rw [List.getElem?_set, if_neg e]
/-- A single error of a clean table is found. -/
theorem single (V : List Int) (d : Int) (k : Nat) (a : Int) (hc : cleanB V d = true) (hl : d + 3 ≤ (V.length : Int)) (hp : putOk V k a = true) : findAt (putL V k a) d = (if a = 0 then 0 else (k : Int)) ∧ findAm (putL V k a) d = a ∧ findKd (putL V k a) d = (if a = 0 then 0 else 1) ∧ corrA (putL V k a) d = V ∧ corrB (putL V k a) d = true := by
  obtain ⟨ht2, h0, hk, ht⟩ := put_tab V k a hp
  rw [Int.toNat_natCast] at ht2
  unfold cleanB at hc
  simp only [Bool.and_eq_true] at hc
  obtain ⟨_, hd, hz⟩ := hc
  have ⟨d0, d6⟩ := of_decide_eq_true hd
  have hkN : k < V.length := by omega
  have hok : findOk (putL V k a) d = true := by
    unfold findOk longOk
    rw [ht2, hd, putL_length, Bool.true_and, Bool.true_and]
    exact decide_eq_true hl
  have hrow : findRow (putL V k a) d = errL (d.toNat + 1) k a (V.length - (d.toNat + 1)) := err_row V k a (d.toNat + 1) (by omega) hkN (tab_abs V ht) (tab_abs _ ht2) hz
  have hA : findAt (putL V k a) d = findA (findRow (putL V k a) d) (d.toNat + 1) := by unfold findAt; rw [hok]; rfl
  have hM : findAm (putL V k a) d = findM (findRow (putL V k a) d) (d.toNat + 1) := by unfold findAm; rw [hok]; rfl
  have hK : findKd (putL V k a) d = findK (findRow (putL V k a) d) (d.toNat + 1) := by unfold findKd; rw [hok]; rfl
  by_cases ha : a = 0
  · subst ha
    obtain ⟨e1, e2, e3⟩ := find_zero (row := findRow (putL V k 0) d) (o := d.toNat + 1) (by rw [hrow]; exact zero_err0 _ _ _)
    rw [hA, hM, hK, e1, e2, e3, if_pos rfl, if_pos rfl]
    refine ⟨rfl, rfl, rfl, ?_, ?_⟩
    · unfold corrA; rw [hK, e3, if_pos rfl]
      obtain ⟨z, hzz⟩ := get_lt V k hkN
      unfold putL
      rw [getD_of hzz, Int.add_zero]
      exact set_same V k z hzz
    · unfold corrB; rw [hK, e3]; rfl
  · have hz2 : zeroOk (findRow (putL V k a) d) = false := by rw [hrow]; exact zero_errN _ _ _ _ (by omega) ha (by omega) (by omega)
    have hg : guessN (errL (d.toNat + 1) k a (V.length - (d.toNat + 1))) (d.toNat + 1) k = a := guess_err (d.toNat + 1) k a (V.length - (d.toNat + 1)) (by omega) (by omega) (by omega)
    have hex : explB (findRow (putL V k a) d) (d.toNat + 1) k = true := by
      unfold explB
      rw [hrow, hg, errL_length, decide_eq_true ha, decide_eq_true rfl]; rfl
    have hlen : (findRow (putL V k a) d).length = V.length - (d.toNat + 1) := by rw [hrow, errL_length]
    have hf := findO_at (findRow (putL V k a) d) (d.toNat + 1) k (by omega) (by omega) (by rw [hlen]; omega) (by rw [hlen]; omega) hex
    obtain ⟨e1, e2, e3⟩ := find_hit hz2 hf
    rw [hrow, hg] at e2
    rw [← hrow] at e2
    rw [hA, hM, hK, e1, e2, e3, if_neg ha, if_neg ha]
    refine ⟨rfl, rfl, rfl, ?_, ?_⟩
    · unfold corrA
      rw [hK, e3, if_neg (by omega), if_pos rfl, hA, hM, e1, e2, Int.toNat_natCast]
      exact set_back V k a hkN
    · unfold corrB; rw [hK, e3]; rfl
set_option maxHeartbeats 2000000 in
theorem lawFindSingle (a : Option Addr) (len cap : Nat) (a2 : Option Addr) (len2 cap2 : Nat) (w : World) (hc : Came w a len cap) (hc2 : Came w a2 len2 cap2) : Calls Try.prog 4 #[.slice a len cap, .slice a2 len2 cap2] w (Gives (.bool true) w) := by
  have hcap := hc.lenLe
  have hcap2 := hc.capLe
  have hcap3 := hc2.lenLe
  have hcap4 := hc2.capLe
  unfold maxLen at hcap2 hcap4
  by_cases hbig : 1048576 < len
  · clear hc hc2
    go_enter Try.func4, Try.ntmps4
    go_wp2
    go_ret
    exact ⟨rfl, Below.refl _ _⟩
  by_cases hbig2 : 1048576 < len2
  · clear hc hc2
    go_enter Try.func4, Try.ntmps4
    go_wp2
    go_ret
    exact ⟨rfl, Below.refl _ _⟩
  have HD := hidH (drawCleanTable a len cap w hc (by omega))
  clear hc hc2
  go_enter Try.func4, Try.ntmps4
  go_wp2_with fail
  refine HD.out.mono ?_
  rintro e w1 ⟨v, zs, d, rfl, hv, h61, hB⟩
  have V_1 := hidH hv
  have B1 := hidH hB
  have C1 := hidH (Below.refl w1.heap.size w1)
  obtain ⟨av, cv, rfl, hlv, hcv, _, hcellv⟩ := hv
  unfold maxLen at hcv
  clear hB HD hcellv
  go_wp2_with fail
  refine (clean_any (.slice av zs.length cv) zs d w1 _ _ V_1.out).mono ?_; rintro e w2 ⟨rfl, hb⟩
  have B2 := hidH (B1.out.trans (hb.mono B1.out.size))
  have C2 := hidH (C1.out.trans (hb.mono C1.out.size))
  have V_2 := hidH (V_1.out.below hb)
  clear hb B1 C1 V_1
  go_wp2_with fail
  refine (sClean_any (.slice av zs.length cv) zs d w2 _ _ V_2.out).mono ?_; rintro e w3 ⟨rfl, hb⟩
  have B3 := hidH (B2.out.trans (hb.mono B2.out.size))
  have C3 := hidH (C2.out.trans (hb.mono C2.out.size))
  have V_3 := hidH (V_2.out.below hb)
  clear hb B2 C2 V_2
  have hcl := clean_iff zs d
  by_cases hyes : cleanB zs d = true ∧ d + 3 ≤ (zs.length : Int)
  · have ⟨hyc, hyl⟩ := hyes
    have ⟨d0, d6, _, _⟩ := hcl.1 hyc
    have HYC := hidH hyc
    obtain ⟨k, hq1, hk⟩ : ∃ k : Nat, (len2 : Int) % (zs.length : Int) = (k : Int) ∧ k < zs.length := ⟨len2 % zs.length, by rw [Int.natCast_emod], Nat.mod_lt _ (by omega)⟩
    obtain ⟨am, hq2⟩ : ∃ am : Int, (len2 : Int) / 3 % 40 - 20 = am := ⟨_, rfl⟩
    have hq3 : -20 ≤ am ∧ am < 20 := by omega
    have hzn : ((zs.length : Int) != 0) = true := bne_iff_ne.2 (by omega)
    have hzn2 : ((zs.length : Int) == 0) = false := beq_eq_false_iff_ne.2 (by omega)
    clear hcl hyes
    rw [hyc]
    clear hyc
    go_wp2_with fail
    refine (put_any (.slice av zs.length cv) zs (k : Int) am w3 _ _ V_3.out).mono ?_; rintro e w4 ⟨pv, rfl, hr, hb⟩
    have B4 := hidH (B3.out.trans (hb.mono B3.out.size))
    have C4 := hidH (C3.out.trans (hb.mono C3.out.size))
    have V_4 := hidH (V_3.out.below hb)
    have X_4 := hidH hr
    clear hb hr B3 C3 V_3
    cases hp : putOk zs (k : Int) am
    · go_wp2_with fail
      go_ret
      exact ⟨rfl, B4.out⟩
    · have ⟨f1, f2, f3, f4, f5⟩ := single zs d k am HYC.out hyl hp
      have HPA := hidH (show putA zs (k : Int) am = putL zs k am by rw [putA, hp, if_pos rfl, Int.toNat_natCast])
      rw [HPA.out] at X_4
      have hpl := putL_length zs k am
      obtain ⟨pb, pc, rfl, hpc, hpm, _, _, _⟩ := X_4.out.blk (by omega)
      unfold maxLen at hpm
      clear hpl
      have F1 := hidH f1
      have F2 := hidH f2
      have F3 := hidH f3
      have F4 := hidH f4
      have F5 := hidH f5
      clear f1 f2 f3 f4 f5 HPA hp
      generalize putL zs k am = xs at *
      by_cases ha : am = 0
      · rw [if_pos ha] at F1 F3
        subst ha
        go_wp2_with fail
        refine (find_any (.slice (some ⟨pb, 0, none⟩) xs.length pc) xs d w4 _ _ X_4.out.lies).mono ?_; rintro e w5 ⟨rfl, hb⟩
        have B5 := hidH (B4.out.trans (hb.mono B4.out.size))
        have C5 := hidH (C4.out.trans (hb.mono C4.out.size))
        have V_5 := hidH (V_4.out.below hb)
        have X_5 := hidH (X_4.out.below hb)
        clear hb B4 C4 V_4 X_4
        rw [F1.out, F2.out, F3.out]
        go_wp2_with fail
        refine (corr_any (.slice (some ⟨pb, 0, none⟩) xs.length pc) xs d w5 _ _ X_5.out.lies).mono ?_; rintro e w6 ⟨cvv, rfl, hr, hb⟩
        have B6 := hidH (B5.out.trans (hb.mono B5.out.size))
        have C6 := hidH (C5.out.trans (hb.mono C5.out.size))
        have V_6 := hidH (V_5.out.below hb)
        have X_6 := hidH (X_5.out.below hb)
        have Q_6 := hidH hr
        clear hb hr B5 C5 V_5 X_5
        rw [F5.out]
        rw [F4.out] at Q_6
        go_wp2_with fail
        go_ret
        exact ⟨rfl, B6.out⟩
      · rw [if_neg ha] at F1 F3
        have hb0 : (am == 0) = false := beq_eq_false_iff_ne.2 ha
        clear ha
        go_wp2_with fail
        refine (find_any (.slice (some ⟨pb, 0, none⟩) xs.length pc) xs d w4 _ _ X_4.out.lies).mono ?_; rintro e w5 ⟨rfl, hb⟩
        have B5 := hidH (B4.out.trans (hb.mono B4.out.size))
        have C5 := hidH (C4.out.trans (hb.mono C4.out.size))
        have V_5 := hidH (V_4.out.below hb)
        have X_5 := hidH (X_4.out.below hb)
        clear hb B4 C4 V_4 X_4
        rw [F1.out, F2.out, F3.out]
        go_wp2_with fail
        refine (corr_any (.slice (some ⟨pb, 0, none⟩) xs.length pc) xs d w5 _ _ X_5.out.lies).mono ?_; rintro e w6 ⟨cvv, rfl, hr, hb⟩
        have B6 := hidH (B5.out.trans (hb.mono B5.out.size))
        have C6 := hidH (C5.out.trans (hb.mono C5.out.size))
        have V_6 := hidH (V_5.out.below hb)
        have X_6 := hidH (X_5.out.below hb)
        have Q_6 := hidH hr
        clear hb hr B5 C5 V_5 X_5
        rw [F5.out]
        rw [F4.out] at Q_6
        go_wp2_with fail
        refine (deInts_yes cvv (.slice av zs.length cv) zs _ _ _ _ _ Q_6.out.lies V_6.out).mono ?_; rintro e w7 ⟨rfl, hb⟩
        have B7 := hidH (B6.out.trans (hb.mono B6.out.size))
        have C7 := hidH (C6.out.trans (hb.mono C6.out.size))
        have V_7 := hidH (V_6.out.below hb)
        have X_7 := hidH (X_6.out.below hb)
        have Q_7 := hidH (Q_6.out.below hb)
        clear hb B6 C6 V_6 X_6 Q_6
        go_wp2_with fail
        go_ret
        exact ⟨rfl, B7.out⟩
  · cases hx : cleanB zs d
    · have HX := hidH hx
      clear hcl hyes hx
      go_wp2_with fail
      refine (sClean_any (.slice av zs.length cv) zs d w3 _ _ V_3.out).mono ?_; rintro e w4 ⟨rfl, hb⟩
      have B4 := hidH (B3.out.trans (hb.mono B3.out.size))
      have C4 := hidH (C3.out.trans (hb.mono C3.out.size))
      have V_4 := hidH (V_3.out.below hb)
      clear hb B3 C3 V_3
      rw [HX.out]
      go_wp2_with fail
      go_ret
      exact ⟨rfl, B4.out⟩
    · have ⟨d0, d6, _, _⟩ := hcl.1 hx
      have hsh : (zs.length : Int) < d + 3 := by have hn : ¬ (d + 3 ≤ (zs.length : Int)) := fun h => hyes ⟨hx, h⟩; omega
      have HX := hidH hx
      clear hcl hyes hx
      go_wp2_with fail
      refine (sClean_any (.slice av zs.length cv) zs d w3 _ _ V_3.out).mono ?_; rintro e w4 ⟨rfl, hb⟩
      have B4 := hidH (B3.out.trans (hb.mono B3.out.size))
      have C4 := hidH (C3.out.trans (hb.mono C3.out.size))
      have V_4 := hidH (V_3.out.below hb)
      clear hb B3 C3 V_3
      rw [HX.out]
      go_wp2_with fail
      go_ret
      exact ⟨rfl, B4.out⟩
end Go.Proofs.Ytlicihjjbojpcaa
