/-
  The walk of a law: taking an error out restores the table, and an error is one erratum. No conditions but that the bytes that came in can be read.
-/
import Derived.Test.YtlicihjjbojpcaaErrPa
import Derived.Test.YtlicihjjbojpcaaErrEa
import Derived.Test.YtlicihjjbojpcaaErrC
import Derived.Test.YtlicihjjbojpcaaDeFns
namespace Go.Proofs.Ytlicihjjbojpcaa
set_option maxRecDepth 4000
open Go.RowKit
theorem err_self (zs : List Int) : ∀ j, errF zs zs j = [] ∧ errN zs zs j = 0 := by
  intro j
  induction j with
  | zero => exact ⟨rfl, rfl⟩
  | succ j ih => have := errF_same zs zs j rfl; rw [this.1, this.2]; exact ih
theorem err_one (zs : List Int) (k : Nat) (x : Int) (hk : k < zs.length) (hx : x ≠ zs.getD k 0) : ∀ j, (k < j → errF zs (zs.set k x) j = [(k : Int), x, zs.getD k 0] ∧ errN zs (zs.set k x) j = 1) ∧ (j ≤ k → errF zs (zs.set k x) j = [] ∧ errN zs (zs.set k x) j = 0) := by
  intro j
  induction j with
  | zero => exact ⟨fun h => by omega, fun _ => ⟨rfl, rfl⟩⟩
  | succ j ih =>
    by_cases e : j = k
    · subst e
      have hg : (zs.set j x).getD j 0 = x := by rw [List.getD_eq_getElem?_getD, List.getElem?_set_self hk]; rfl
      have h := errF_more zs (zs.set j x) j (by rw [hg]; exact hx)
      have h0 := ih.2 (Nat.le_refl _)
      rw [hg, h0.1, h0.2] at h
      exact ⟨fun _ => h, fun h => by omega⟩
    · have hg : (zs.set k x).getD j 0 = zs.getD j 0 := by
        rw [List.getD_eq_getElem?_getD, List.getElem?_set, if_neg (Ne.symm e), ← List.getD_eq_getElem?_getD]
      have h := errF_same zs (zs.set k x) j hg
      rw [h.1, h.2]
      exact ⟨fun h => ih.1 (by omega), fun h => ih.2 (by omega)⟩
/-- The errata of an error that was put in. -/
theorem put_errata (zs : List Int) (k : Nat) (a : Int) (h : putOk zs k a = true) : tabsOk zs (putL zs k a) = true ∧ putOk (putL zs k a) k (-a) = true ∧ putL (putL zs k a) k (-a) = zs ∧ (a = 0 → errataN zs (putL zs k a) = 0) ∧ (a ≠ 0 → errataN zs (putL zs k a) = 1 ∧ ∃ x y, errataF zs (putL zs k a) = [(k : Int), x, y]) ∧ k < zs.length ∧ zs.length ≤ 60 ∧ -1000000000 ≤ a ∧ a ≤ 1000000000 := by
  obtain ⟨ht2, h0, hk, ht⟩ := put_tab zs k a h
  rw [Int.toNat_natCast] at ht2
  have hkN : k < zs.length := by omega
  obtain ⟨z, hz⟩ := get_lt zs k hkN
  have htb : tabsOk zs (putL zs k a) = true := by unfold tabsOk; rw [ht, ht2, putL_length]; simp
  have h' := h
  unfold putOk at h'
  simp only [Bool.and_eq_true] at h'
  obtain ⟨_, _, ha, _⟩ := h'
  have ⟨a1, a2⟩ := of_decide_eq_true ha
  have hzb := tab_bd ht hz
  have hg : (putL zs k a).getD k 0 = z + a := by
    unfold putL
    rw [getD_of hz, List.getD_eq_getElem?_getD, List.getElem?_set_self hkN]; rfl
  refine ⟨htb, ?_, ?_, fun h0 => ?_, fun hne => ?_, hkN, (tableOk_len _ ht).2, a1, a2⟩
  · unfold putOk atOk inB
    rw [ht2, putL_length, Int.toNat_natCast, hg]
    simp
    omega
  · unfold putL
    rw [getD_of hz]
    have h1 : (zs.set k (z + a)).getD k 0 = z + a := by rw [List.getD_eq_getElem?_getD, List.getElem?_set_self hkN]; rfl
    rw [h1]
    refine List.ext_getElem? fun i => ?_
    rw [List.getElem?_set, List.length_set]
    split
    · rename_i e; subst e
      rw [hz]; simp
      omega
    · rename_i e
      rw [List.getElem?_set, if_neg e]
  · unfold errataN
    rw [htb]
    have : putL zs k a = zs := by
      unfold putL
      rw [getD_of hz, h0, Int.add_zero]
      refine List.ext_getElem? fun i => ?_
      rw [List.getElem?_set]
      split
      · rename_i e; subst e; rw [hz]
      · rfl
    rw [this]
    exact (err_self zs zs.length).2
  · unfold errataN errataF
    rw [htb]
    have := (err_one zs k (z + a) hkN (by rw [getD_of hz]; omega) zs.length).1 hkN
    unfold putL
    rw [getD_of hz]
    exact ⟨this.2, _, _, this.1⟩
set_option maxHeartbeats 2000000 in
theorem lawPutError (a : Option Addr) (len cap : Nat) (w : World) (hc : Came w a len cap) : Calls Try.prog 5 #[.slice a len cap] w (Gives (.bool true) w) := by
  have hcap := hc.lenLe
  have hcap2 := hc.capLe
  unfold maxLen at hcap2
  by_cases hbig : 1048576 < len
  · clear hc
    go_enter Try.func5, Try.ntmps5
    go_wp2
    go_ret
    exact ⟨rfl, Below.refl _ _⟩
  · have HD := hidH (drawPutError a len cap w hc (by omega))
    clear hc
    go_enter Try.func5, Try.ntmps5
    go_wp2_with fail
    refine HD.out.mono ?_
    rintro e w1 ⟨v, zs, kk, am, rfl, hv, h61, hB⟩
    have V_1 := hidH hv
    have B1 := hidH hB
    have C1 := hidH (Below.refl w1.heap.size w1)
    obtain ⟨av, cv, rfl, hlv, hcv, _, hcellv⟩ := hv
    unfold maxLen at hcv
    clear hB HD hcellv
    go_wp2_with fail
    refine (put_any (.slice av zs.length cv) zs kk am w1 _ _ V_1.out).mono ?_; rintro e w2 ⟨x, rfl, hr, hb⟩
    have B2 := hidH (B1.out.trans (hb.mono B1.out.size))
    have C2 := hidH (C1.out.trans (hb.mono C1.out.size))
    have V_2 := hidH (V_1.out.below hb)
    have X_2 := hidH hr
    clear hb hr B1 C1 V_1
    go_wp2_with fail
    refine (sPut_any (.slice av zs.length cv) zs kk am w2 _ _ V_2.out).mono ?_; rintro e w3 ⟨s, rfl, hr, hb⟩
    have B3 := hidH (B2.out.trans (hb.mono B2.out.size))
    have C3 := hidH (C2.out.trans (hb.mono C2.out.size))
    have V_3 := hidH (V_2.out.below hb)
    have X_3 := hidH (X_2.out.below hb)
    have S_3 := hidH hr
    clear hb hr B2 C2 V_2 X_2
    have hlA := putA_len zs kk am
    go_wp2_with fail
    refine (deInts_yes x s (putA zs kk am) _ _ _ _ _ X_3.out.lies S_3.out.lies).mono ?_; rintro e w4 ⟨rfl, hb⟩
    have B4 := hidH (B3.out.trans (hb.mono B3.out.size))
    have C4 := hidH (C3.out.trans (hb.mono C3.out.size))
    have V_4 := hidH (V_3.out.below hb)
    have X_4 := hidH (X_3.out.below hb)
    have S_4 := hidH (S_3.out.below hb)
    clear hb B3 C3 V_3 X_3 S_3
    cases hp : putOk zs kk am
    · go_wp2_with fail
      refine (deInts_yes x s (putA zs kk am) _ _ _ _ _ X_4.out.lies S_4.out.lies).mono ?_; rintro e w5 ⟨rfl, hb⟩
      have B5 := hidH (B4.out.trans (hb.mono B4.out.size))
      have C5 := hidH (C4.out.trans (hb.mono C4.out.size))
      have V_5 := hidH (V_4.out.below hb)
      have X_5 := hidH (X_4.out.below hb)
      have S_5 := hidH (S_4.out.below hb)
      clear hb B4 C4 V_4 X_4 S_4
      go_wp2_with fail
      go_ret
      exact ⟨rfl, B5.out⟩
    · have HT := put_tab zs kk am hp
      obtain ⟨k, rfl⟩ : ∃ k : Nat, kk = (k : Int) := ⟨kk.toNat, by omega⟩
      clear HT
      obtain ⟨htb, hpb, hback, he0, he1, hkl, hz60, a1, a2⟩ := put_errata zs k am hp
      have HPA := hidH (show putA zs (k : Int) am = putL zs k am by rw [putA, hp, if_pos rfl, Int.toNat_natCast])
      have HPB := hidH (show putA (putL zs k am) (k : Int) (-am) = zs by rw [putA, hpb, if_pos rfl, Int.toNat_natCast, hback])
      have HPO := hidH hpb
      have HTB := hidH htb
      have HE0 := hidH he0
      have HE1 := hidH he1
      rw [HPA.out] at X_4
      have hpl := putL_length zs k am
      obtain ⟨pb, pc, rfl, hpc, hpm, _, _, _⟩ := X_4.out.blk (by omega)
      unfold maxLen at hpm
      clear htb hpb hback he0 he1 hp hpl S_4 hlA
      generalize putL zs k am = xs at *
      go_wp2_with fail
      refine (put_any (.slice (some ⟨pb, 0, none⟩) xs.length pc) xs (k : Int) (-am) w4 _ _ X_4.out.lies).mono ?_; rintro e w5 ⟨y, rfl, hr, hb⟩
      have B5 := hidH (B4.out.trans (hb.mono B4.out.size))
      have C5 := hidH (C4.out.trans (hb.mono C4.out.size))
      have V_5 := hidH (V_4.out.below hb)
      have X_5 := hidH (X_4.out.below hb)
      have Y_5 := hidH hr
      clear hb hr B4 C4 V_4 X_4
      rw [HPO.out]
      rw [HPB.out] at Y_5
      go_wp2_with fail
      refine (errataOf_any (.slice av zs.length cv) zs (.slice (some ⟨pb, 0, none⟩) xs.length pc) xs w5 _ _ _ _ V_5.out X_5.out.lies).mono ?_; rintro e w6 ⟨q, rfl, hr, hb⟩
      have B6 := hidH (B5.out.trans (hb.mono B5.out.size))
      have C6 := hidH (C5.out.trans (hb.mono C5.out.size))
      have V_6 := hidH (V_5.out.below hb)
      have X_6 := hidH (X_5.out.below hb)
      have Y_6 := hidH (Y_5.out.below hb)
      have Q_6 := hidH hr
      clear hb hr B5 C5 V_5 X_5 Y_5
      rw [HTB.out]
      by_cases ha : am = 0
      · rw [HE0.out ha] at Q_6
        subst ha
        obtain ⟨_, qa, qc, rfl, _, _, _, _⟩ := Q_6.out
        go_wp2_with fail
        refine (deInts_yes y (.slice av zs.length cv) zs _ _ _ _ _ Y_6.out.lies V_6.out).mono ?_; rintro e w7 ⟨rfl, hb⟩
        have B7 := hidH (B6.out.trans (hb.mono B6.out.size))
        have C7 := hidH (C6.out.trans (hb.mono C6.out.size))
        have V_7 := hidH (V_6.out.below hb)
        have X_7 := hidH (X_6.out.below hb)
        have Y_7 := hidH (Y_6.out.below hb)
        have Q_7 := hidH (Q_6.out.below hb)
        clear hb B6 C6 V_6 X_6 Y_6 Q_6
        go_wp2_with fail
        go_ret
        exact ⟨rfl, B7.out⟩
      · have hb0 : (am == 0) = false := beq_eq_false_iff_ne.2 ha
        obtain ⟨hn1, x1, y1, hf1⟩ := HE1.out ha
        rw [hn1, hf1] at Q_6
        clear ha hn1 hf1
        obtain ⟨_, qa, qc, rfl, _, _, _, hqr⟩ := Q_6.out
        obtain ⟨qb, qc2, e, _, _, _, _, hqk⟩ := hqr.blk (by simp)
        injection e with e1 e2 e3
        subst e1
        clear e2 e3
        have hq0 := (hqk.2 0 (k : Int) rfl).1
        have hqlt := hqk.1
        have HQ0 := hidH hq0
        clear hqk hqr hq0
        go_wp2_with fail
        refine (deInts_yes y (.slice av zs.length cv) zs _ _ _ _ _ Y_6.out.lies V_6.out).mono ?_; rintro e w7 ⟨rfl, hb⟩
        have w_q2 := hidH hb
        have B7 := hidH (B6.out.trans (hb.mono B6.out.size))
        have C7 := hidH (C6.out.trans (hb.mono C6.out.size))
        have V_7 := hidH (V_6.out.below hb)
        have X_7 := hidH (X_6.out.below hb)
        have Y_7 := hidH (Y_6.out.below hb)
        have Q_7 := hidH (Q_6.out.below hb)
        clear hb B6 C6 V_6 X_6 Y_6 Q_6
        have hq0 : w7.cell? ⟨qb, 0, none⟩ = some (.int .i64 (k : Int)) := by rw [(w_q2.out).cell (p := ⟨qb, 0, none⟩) hqlt]; exact HQ0.out
        go_wp2_with fail
        go_ret
        exact ⟨rfl, B7.out⟩
end Go.Proofs.Ytlicihjjbojpcaa
