/-
  CorrectTable: the program and the model, at every argument. No conditions but that slices fit in memory.
-/
import Derived.Test.YtlicihjjbojpcaaErrV
import Derived.Test.YtlicihjjbojpcaaErrC
namespace Go.Proofs.Ytlicihjjbojpcaa
set_option maxRecDepth 4000
open Go.RowKit
/-- The corrected table. -/
def corrA (zs : List Int) (d : Int) : List Int := if findKd zs d = 0 then zs else if findKd zs d = 1 then putL zs (findAt zs d).toNat (-(findAm zs d)) else []
def corrB (zs : List Int) (d : Int) : Bool := decide (findKd zs d = 0 ∨ findKd zs d = 1)
theorem corrA_len (zs : List Int) (d : Int) (h : zs.length ≤ 1048576) : (corrA zs d).length ≤ 1048576 := by
  unfold corrA putL
  split
  · exact h
  · split
    · rw [List.length_set]; exact h
    · simp
/-- What a search tells. -/
theorem find_facts (zs : List Int) (d : Int) : (findKd zs d = 0 ∧ findAt zs d = 0 ∧ findAm zs d = 0 ∧ tableOk zs = true) ∨ (findKd zs d = 1 ∧ (∃ k : Nat, findAt zs d = (k : Int) ∧ k < zs.length) ∧ (findAm zs d).natAbs ≤ 1000000000000 ∧ tableOk zs = true) ∨ findKd zs d = 2 ∨ findKd zs d = 3 := by
  unfold findKd findAt findAm
  cases h : findOk zs d
  · exact .inr (.inr (.inr rfl))
  · have h2 := h
    unfold findOk at h2
    rw [Bool.and_eq_true, Bool.and_eq_true] at h2
    obtain ⟨ht, hd, hl⟩ := h2
    have hd := of_decide_eq_true hd
    have hl := of_decide_eq_true hl
    simp only [if_true]
    cases hz : zeroOk (findRow zs d)
    · cases hf : findO (findRow zs d) (d.toNat + 1) with
      | none => obtain ⟨e1, e2, e3⟩ := find_miss hz hf; exact .inr (.inr (.inl e3))
      | some k =>
        obtain ⟨e1, e2, e3⟩ := find_hit hz hf
        have hk := seekE_some _ _ _ _ _ hf
        have hlen : (findRow zs d).length = zs.length - (d.toNat + 1) := difN_length _ _
        rw [hlen] at hk
        rw [e1, e2, e3]
        exact .inr (.inl ⟨rfl, ⟨k, rfl, by omega⟩, (guess_bd (findRow zs d) (d.toNat + 1) k 1000000000000 (findRow_bd zs d ht (by omega))).1, ht⟩)
    · obtain ⟨e1, e2, e3⟩ := find_zero (row := findRow zs d) (o := d.toNat + 1) hz
      exact .inl ⟨e3, e1, e2, ht⟩
theorem corr_not (zs : List Int) (d : Int) (h : findKd zs d = 2 ∨ findKd zs d = 3) : corrA zs d = [] ∧ corrB zs d = false := by
  unfold corrA corrB
  rw [if_neg (by omega), if_neg (by omega), decide_eq_false (by omega)]
  exact ⟨rfl, rfl⟩
theorem set_same (zs : List Int) (k : Nat) (z : Int) (h : zs[k]? = some z) : zs.set k z = zs := by
  refine List.ext_getElem? fun i => ?_
  rw [List.getElem?_set]
  split
  · rename_i e; subst e
    rw [if_pos (List.getElem?_eq_some_iff.1 h).1, h]
  · rfl
set_option maxHeartbeats 1600000 in
theorem corr_any (v0 : Value) (zs0 : List Int) (n1 : Int) (w : World) (lo0 hi0 : Nat) (hv0 : Lies w lo0 hi0 v0 zs0) : Calls Try.prog 12 #[v0, .int .i64 n1] w (NewRowB (corrA zs0 n1) (corrB zs0 n1) w) := by
  have HV := hidH hv0
  have HK := hidH (find_any v0 zs0 n1 w lo0 hi0 hv0)
  clear hv0
  rcases find_facts zs0 n1 with ⟨e1, e2, e3, ht⟩ | ⟨e1, ⟨k, e2, hk⟩, e3, ht⟩ | e1 | e1
  · have ⟨hl1, hl2⟩ := tableOk_len _ ht
    obtain ⟨b0, off0, cap0, rfl, hlc0, hcm0, _, _, _, hcell0⟩ := HV.out.addr (by omega)
    unfold maxLen at hcm0
    obtain ⟨z, hz⟩ := get_lt zs0 0 (by omega)
    have ⟨hz1, hz2⟩ := tab_bd ht hz
    have HZ := hidH hz
    have HZD := hidH (getD_of hz)
    clear hz hcell0
    have HA := hidH (show corrA zs0 n1 = zs0 from if_pos e1)
    have HBB := hidH (show corrB zs0 n1 = true from decide_eq_true (.inl e1))
    have HS0 := hidH (set_same zs0 0 z HZ.out)
    rw [e1, e2, e3] at HK
    rw [HA.out, HBB.out]
    clear e1 e2 e3 HA HBB
    go_enter Try.func12, Try.ntmps12
    go_wp2_with fail
    refine HK.out.mono ?_; rintro e w1 ⟨rfl, hb⟩
    have HB1 := hidH hb
    have HV1 := hidH (HV.out.below hb)
    clear hb HV
    go_wp2_with fail
    refine (clone_any _ zs0 _ _ _ HV1.out (by omega) (by omega)).mono ?_; rintro e w8 ⟨v8, rfl, hr, hb⟩
    obtain ⟨b8, c8, rfl, hlc8, hcm8, hlo8, hhi8, hblk⟩ := hr.blk (by omega)
    have HBK := hidH hblk
    have HB8 := hidH (HB1.out.trans (hb.mono HB1.out.size))
    have hsz8 := HB1.out.size
    clear hr hb hblk
    obtain ⟨hc8, hf8⟩ := HBK.out.2 0 z HZ.out
    have HST := hidH (HBK.out.set 0 z)
    unfold maxLen at hcm8
    go_wp2_with fail
    go_ret2
    exact ⟨_, rfl, (by have h := HST.out.row (lo := w.heap.size) (hi := _) (cap := c8) (n := zs0.length) (by omega) HST.out.1 (by simpa using hlc8) (by unfold maxLen; omega) (by simp); rw [HS0.out] at h; exact h), HB8.out.setCell (by show w.heap.size ≤ b8; omega) _⟩
  · have ⟨hl1, hl2⟩ := tableOk_len _ ht
    obtain ⟨b0, off0, cap0, rfl, hlc0, hcm0, _, _, _, hcell0⟩ := HV.out.addr (by omega)
    unfold maxLen at hcm0
    obtain ⟨z, hz⟩ := get_lt zs0 k (by omega)
    have ⟨hz1, hz2⟩ := tab_bd ht hz
    have HZ := hidH hz
    have HZD := hidH (getD_of hz)
    clear hz hcell0
    have HA := hidH (show corrA zs0 n1 = zs0.set k (z - findAm zs0 n1) by unfold corrA; rw [if_neg (by omega), if_pos e1, e2, Int.toNat_natCast, putL, HZD.out, Int.sub_eq_add_neg])
    have HBB := hidH (show corrB zs0 n1 = true from decide_eq_true (.inr e1))
    rw [e1, e2] at HK
    rw [HA.out, HBB.out]
    have hm1 : -1000000000000 ≤ findAm zs0 n1 := by omega
    have hm2 : findAm zs0 n1 ≤ 1000000000000 := by omega
    clear e1 e2 e3 HA HBB
    generalize findAm zs0 n1 = B at *
    go_enter Try.func12, Try.ntmps12
    go_wp2_with fail
    refine HK.out.mono ?_; rintro e w1 ⟨rfl, hb⟩
    have HB1 := hidH hb
    have HV1 := hidH (HV.out.below hb)
    clear hb HV
    go_wp2_with fail
    refine (clone_any _ zs0 _ _ _ HV1.out (by omega) (by omega)).mono ?_; rintro e w8 ⟨v8, rfl, hr, hb⟩
    obtain ⟨b8, c8, rfl, hlc8, hcm8, hlo8, hhi8, hblk⟩ := hr.blk (by omega)
    have HBK := hidH hblk
    have HB8 := hidH (HB1.out.trans (hb.mono HB1.out.size))
    have hsz8 := HB1.out.size
    clear hr hb hblk
    obtain ⟨hc8, hf8⟩ := HBK.out.2 k z HZ.out
    have HST := hidH (HBK.out.set k (z - B))
    unfold maxLen at hcm8
    go_wp2_with fail
    go_ret2
    exact ⟨_, rfl, (by have h := HST.out.row (lo := w.heap.size) (hi := _) (cap := c8) (n := zs0.length) (by omega) HST.out.1 (by simpa using hlc8) (by unfold maxLen; omega) (by simp); exact h), HB8.out.setCell (by show w.heap.size ≤ b8; omega) _⟩
  · have HE := hidH (corr_not zs0 n1 (.inl e1))
    rw [e1] at HK
    rw [HE.out.1, HE.out.2]
    clear e1 HE
    generalize findAt zs0 n1 = A at *
    generalize findAm zs0 n1 = B at *
    go_enter Try.func12, Try.ntmps12
    go_wp2_with fail
    refine HK.out.mono ?_; rintro e w1 ⟨rfl, hb⟩
    have HB1 := hidH hb
    have HV1 := hidH (HV.out.below hb)
    clear hb HV
    go_wp2_with fail
    go_ret2
    exact ⟨_, rfl, Row.nil _ _ _ _ _ (Nat.zero_le _) (fun _ => rfl), HB1.out⟩
  · have HE := hidH (corr_not zs0 n1 (.inr e1))
    rw [e1] at HK
    rw [HE.out.1, HE.out.2]
    clear e1 HE
    generalize findAt zs0 n1 = A at *
    generalize findAm zs0 n1 = B at *
    go_enter Try.func12, Try.ntmps12
    go_wp2_with fail
    refine HK.out.mono ?_; rintro e w1 ⟨rfl, hb⟩
    have HB1 := hidH hb
    have HV1 := hidH (HV.out.below hb)
    clear hb HV
    go_wp2_with fail
    go_ret2
    exact ⟨_, rfl, Row.nil _ _ _ _ _ (Nat.zero_le _) (fun _ => rfl), HB1.out⟩
set_option maxHeartbeats 1600000 in
theorem sCorr_any (v0 : Value) (zs0 : List Int) (n1 : Int) (w : World) (lo0 hi0 : Nat) (hv0 : Lies w lo0 hi0 v0 zs0) : Calls Try.prog 13 #[v0, .int .i64 n1] w (NewRowB (corrA zs0 n1) (corrB zs0 n1) w) := by
  have HV := hidH hv0
  have HK := hidH (sFind_any v0 zs0 n1 w lo0 hi0 hv0)
  clear hv0
  rcases find_facts zs0 n1 with ⟨e1, e2, e3, ht⟩ | ⟨e1, ⟨k, e2, hk⟩, e3, ht⟩ | e1 | e1
  · have ⟨hl1, hl2⟩ := tableOk_len _ ht
    obtain ⟨b0, off0, cap0, rfl, hlc0, hcm0, _, _, _, hcell0⟩ := HV.out.addr (by omega)
    unfold maxLen at hcm0
    obtain ⟨z, hz⟩ := get_lt zs0 0 (by omega)
    have ⟨hz1, hz2⟩ := tab_bd ht hz
    have HZ := hidH hz
    have HZD := hidH (getD_of hz)
    clear hz hcell0
    have HA := hidH (show corrA zs0 n1 = zs0 from if_pos e1)
    have HBB := hidH (show corrB zs0 n1 = true from decide_eq_true (.inl e1))
    rw [e1, e2, e3] at HK
    rw [HA.out, HBB.out]
    obtain ⟨i0, hi0, hz0, hz3, hz4⟩ := info_parts infoInt
    have HO := hidH (oneCells zs0)
    clear e1 e2 e3 HA HBB
    go_enter Try.func13, Try.ntmps13
    go_wp2_with fail
    refine HK.out.mono ?_; rintro e w1 ⟨rfl, hb⟩
    have HB1 := hidH hb
    have HV1 := hidH (HV.out.below hb)
    clear hb HV
    have HC := hidH (cells_map (by obtain ⟨_, _, _, e, _, _, _, _, _, hcell⟩ := HV1.out.addr (by omega); injection e with e0 e3 e4; injection e0 with e0; injection e0 with e1 e2; subst e1; subst e2; exact hcell))
    go_wp2_with (at_builtin; refine wpList_append_own _ rfl _ _ 23 rfl w1.heap.size 3 i0 (.int .i64 0) 1 8 Try.underlying23 hi0 hz0 hz3 hz4 rfl (by decide) _ _ _ rfl (World.ownsRow_made w1 #[] 0 (Nat.le_refl _) (Nat.zero_le _) rfl) ⟨b0, off0, none⟩ zs0.length cap0 (ints zs0) rfl ?qc1 ?qc2 HO.out ?qc4 ?qc5 ?qc6 ?_)
    case qc1 => rw [ints_length, Nat.mul_one]
    case qc2 => exact HC.out _ ((Below.refl _ _).alloc (Nat.le_refl _) _)
    case qc4 => unfold maxLen; omega
    case qc5 => omega
    case qc6 => simp
    intro v' w2 hown hgrow hnil
    have HB2 := hidH (((Below.refl w1.heap.size w1).alloc (Nat.le_refl _) (.cells #[] 3)).grown hgrow (by simp) (by intro k hk; simp [Value.ownBlock] at hk; omega))
    have HR := hidH (row_of_owns hown).1
    clear hown hgrow hnil
    go_wp2_with fail
    go_ret2
    exact ⟨_, rfl, HR.out.mono HB1.out.size (Nat.le_refl _), HB1.out.trans (HB2.out.mono HB1.out.size)⟩
  · have ⟨hl1, hl2⟩ := tableOk_len _ ht
    obtain ⟨b0, off0, cap0, rfl, hlc0, hcm0, _, _, _, hcell0⟩ := HV.out.addr (by omega)
    unfold maxLen at hcm0
    obtain ⟨z, hz⟩ := get_lt zs0 k (by omega)
    have ⟨hz1, hz2⟩ := tab_bd ht hz
    have HZ := hidH hz
    have HZD := hidH (getD_of hz)
    clear hz hcell0
    have HA := hidH (show corrA zs0 n1 = putL zs0 k (-(findAm zs0 n1)) by unfold corrA; rw [if_neg (by omega), if_pos e1, e2, Int.toNat_natCast])
    have HBB := hidH (show corrB zs0 n1 = true from decide_eq_true (.inr e1))
    rw [e1, e2] at HK
    rw [HA.out, HBB.out]
    have hm1 : -1000000000000 ≤ findAm zs0 n1 := by omega
    have hm2 : findAm zs0 n1 ≤ 1000000000000 := by omega
    clear e1 e2 e3 HA HBB
    generalize findAm zs0 n1 = B at *
    go_enter Try.func13, Try.ntmps13
    go_wp2_with fail
    refine HK.out.mono ?_; rintro e w1 ⟨rfl, hb⟩
    have HB1 := hidH hb
    have HV1 := hidH (HV.out.below hb)
    clear hb HV
    go_wp2_with fail
    refine (sPut4_any _ zs0 k z (-B) _ _ _ HV1.out HZ.out (by omega) (by omega) (by omega)).mono ?_; rintro e w2 ⟨v2, rfl, hr, hb⟩
    have HR := hidH hr
    have HB2 := hidH (HB1.out.trans (hb.mono HB1.out.size))
    clear hr hb
    go_wp2_with fail
    go_ret2
    exact ⟨_, rfl, HR.out.mono HB1.out.size (Nat.le_refl _), HB2.out⟩
  · have HE := hidH (corr_not zs0 n1 (.inl e1))
    rw [e1] at HK
    rw [HE.out.1, HE.out.2]
    clear e1 HE
    generalize findAt zs0 n1 = A at *
    generalize findAm zs0 n1 = B at *
    go_enter Try.func13, Try.ntmps13
    go_wp2_with fail
    refine HK.out.mono ?_; rintro e w1 ⟨rfl, hb⟩
    have HB1 := hidH hb
    have HV1 := hidH (HV.out.below hb)
    clear hb HV
    go_wp2_with fail
    go_ret2
    exact ⟨_, rfl, Row.nil _ _ _ _ _ (Nat.zero_le _) (fun _ => rfl), HB1.out.trans (((Below.refl _ _).alloc (Nat.le_refl _) _).mono HB1.out.size)⟩
  · have HE := hidH (corr_not zs0 n1 (.inr e1))
    rw [e1] at HK
    rw [HE.out.1, HE.out.2]
    clear e1 HE
    generalize findAt zs0 n1 = A at *
    generalize findAm zs0 n1 = B at *
    go_enter Try.func13, Try.ntmps13
    go_wp2_with fail
    refine HK.out.mono ?_; rintro e w1 ⟨rfl, hb⟩
    have HB1 := hidH hb
    have HV1 := hidH (HV.out.below hb)
    clear hb HV
    go_wp2_with fail
    go_ret2
    exact ⟨_, rfl, Row.nil _ _ _ _ _ (Nat.zero_le _) (fun _ => rfl), HB1.out.trans (((Below.refl _ _).alloc (Nat.le_refl _) _).mono HB1.out.size)⟩
end Go.Proofs.Ytlicihjjbojpcaa
