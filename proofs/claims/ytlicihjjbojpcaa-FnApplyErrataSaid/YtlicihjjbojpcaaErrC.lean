/-
  PutError: the program and the model, at every argument. No conditions but that slices fit in memory.
-/
import Derived.Test.YtlicihjjbojpcaaErrB
import Derived.Test.YtlicihjjbojpcaaPolyT
namespace Go.Proofs.Ytlicihjjbojpcaa
set_option maxRecDepth 4000
open Go.RowKit
/-- An entry that a table has. -/
def atOk (zs : List Int) (k : Int) : Bool := decide (0 ≤ k ∧ k < zs.length)
/-- An entry of a list with an amount added. -/
def putL (zs : List Int) (k : Nat) (a : Int) : List Int := zs.set k (zs.getD k 0 + a)
theorem putL_length (zs : List Int) (k : Nat) (a : Int) : (putL zs k a).length = zs.length := by simp [putL]
theorem getD_of {zs : List Int} {k : Nat} {z : Int} (h : zs[k]? = some z) : zs.getD k 0 = z := by rw [List.getD_eq_getElem?_getD, h]; rfl
def putOk (zs : List Int) (k a : Int) : Bool := tableOk zs && (atOk zs k && (inB 1000000000 a && inB 1000000000 (zs.getD k.toNat 0 + a)))
/-- What PutError answers. -/
def putA (zs : List Int) (k a : Int) : List Int := if putOk zs k a then putL zs k.toNat a else []
theorem putA_len (zs : List Int) (k a : Int) : (putA zs k a).length ≤ 1048576 := by
  unfold putA
  split
  · rename_i h
    simp only [putOk, Bool.and_eq_true] at h
    have := tableOk_len _ h.1
    rw [putL_length]; omega
  · simp
theorem tab_bd {zs : List Int} (h : tableOk zs = true) {k : Nat} {z : Int} (hz : zs[k]? = some z) : -1000000000 ≤ z ∧ z ≤ 1000000000 := ((listOk_iff _ _ _).1 h).2.2 z (List.mem_of_getElem? hz)
theorem tab_put (zs : List Int) (k : Nat) (a z : Int) (h : tableOk zs = true) (hz : zs[k]? = some z) : tableOk (putL zs k a) = inB 1000000000 (z + a) := by
  have hk := (List.getElem?_eq_some_iff.1 hz).1
  have ⟨h1, h2, h3⟩ := (listOk_iff _ _ _).1 h
  rw [Bool.eq_iff_iff]
  unfold tableOk
  rw [listOk_iff, putL_length, putL, getD_of hz, inB, decide_eq_true_eq]
  constructor
  · intro ⟨_, _, h⟩
    exact h _ (List.mem_of_getElem? (by rw [List.getElem?_set, if_pos rfl, if_pos hk]))
  · intro hb
    refine ⟨h1, h2, fun x hx => ?_⟩
    rcases List.mem_or_eq_of_mem_set hx with hx | rfl
    · exact h3 x hx
    · exact hb
theorem put_no (v0 : Value) (zs0 : List Int) (n1 : Int) (n2 : Int) (w : World) (lo0 hi0 : Nat) (hv0 : Lies w lo0 hi0 v0 zs0) (h : (((tableOk zs0) && ((atOk zs0 n1) && ((inB 1000000000 (n2)) && (inB 1000000000 (zs0.getD n1.toNat 0 + n2)))))) = false) : Calls Try.prog 19 #[v0, .int .i64 n1, .int .i64 n2] w (NewRowB [] false w) := by
  have HV0_0 := hidH hv0
  obtain ⟨a0, cap0, rfl, hlc0, hcm0, hnil0, hcell0⟩ := hv0
  have HCELL := hidH hcell0
  clear hcell0
  unfold maxLen at hcm0
  have HB0 := hidH (Below.refl w.heap.size w)
  cases hc0 : tableOk zs0
  · have HC0 := hidH hc0
    clear h hc0
    go_enter Try.func19, Try.ntmps19
    go_wp2_with fail
    refine (tableValid_any _ zs0 _ _ _ HV0_0.out).mono ?_; rintro e w1 ⟨rfl, hb⟩
    have HV0_1 := hidH (HV0_0.out.below hb)
    clear HV0_0
    have HB1 := hidH (HB0.out.trans (hb.mono HB0.out.size))
    clear hb HB0
    rw [HC0.out]
    go_wp2_with fail
    go_ret2
    exact ⟨_, rfl, Row.nil _ _ _ _ _ (Nat.zero_le _) (fun _ => rfl), HB1.out⟩
  · rw [hc0, Bool.true_and] at h
    have HC0 := hidH hc0
    clear hc0
    cases hc1 : atOk zs0 n1
    · have HC1 := hidH hc1
      clear h hc1
      have hcc := of_decide_eq_false HC1.out
      rcases (show (n1 < 0) ∨ (0 ≤ n1 ∧ (zs0.length : Int) ≤ n1) by omega) with hcf | ⟨ht1_0, hcf⟩
      · clear hcc
        go_enter Try.func19, Try.ntmps19
        go_wp2_with fail
        refine (tableValid_any _ zs0 _ _ _ HV0_0.out).mono ?_; rintro e w1 ⟨rfl, hb⟩
        have HV0_1 := hidH (HV0_0.out.below hb)
        clear HV0_0
        have HB1 := hidH (HB0.out.trans (hb.mono HB0.out.size))
        clear hb HB0
        rw [HC0.out]
        go_wp2_with fail
        go_ret2
        exact ⟨_, rfl, Row.nil _ _ _ _ _ (Nat.zero_le _) (fun _ => rfl), HB1.out⟩
      · clear hcc
        go_enter Try.func19, Try.ntmps19
        go_wp2_with fail
        refine (tableValid_any _ zs0 _ _ _ HV0_0.out).mono ?_; rintro e w1 ⟨rfl, hb⟩
        have HV0_1 := hidH (HV0_0.out.below hb)
        clear HV0_0
        have HB1 := hidH (HB0.out.trans (hb.mono HB0.out.size))
        clear hb HB0
        rw [HC0.out]
        go_wp2_with fail
        go_ret2
        exact ⟨_, rfl, Row.nil _ _ _ _ _ (Nat.zero_le _) (fun _ => rfl), HB1.out⟩
    · rw [hc1, Bool.true_and] at h
      have HC1 := hidH hc1
      clear hc1
      have ⟨ht1_0, ht1_1⟩ := of_decide_eq_true HC1.out
      obtain ⟨k, rfl⟩ := Int.eq_ofNat_of_zero_le ht1_0
      obtain ⟨z, hz⟩ := get_lt zs0 k (by omega)
      obtain ⟨b0, off0, rfl, hlo0, hhi0, hcz⟩ := HCELL.out k z hz
      have hbz := cell_blk _ _ _ hcz
      have ⟨hz1, hz2⟩ := tab_bd HC0.out hz
      have HZD := hidH (getD_of hz)
      have HTN := hidH (Int.toNat_natCast k)
      cases hc2 : inB 1000000000 (n2)
      · have HC2 := hidH hc2
        clear h hc2
        go_enter Try.func19, Try.ntmps19
        go_wp2_with fail
        refine (tableValid_any _ zs0 _ _ _ HV0_0.out).mono ?_; rintro e w1 ⟨rfl, hb⟩
        have HV0_1 := hidH (HV0_0.out.below hb)
        clear HV0_0
        have HB1 := hidH (HB0.out.trans (hb.mono HB0.out.size))
        clear hb HB0
        rw [HC0.out]
        go_wp2_with fail
        refine (within_any (n2) 1000000000 (by omega) (by omega) _).mono ?_; rintro e w_ ⟨rfl, rfl⟩
        rw [HC2.out]
        go_wp2_with fail
        go_ret2
        exact ⟨_, rfl, Row.nil _ _ _ _ _ (Nat.zero_le _) (fun _ => rfl), HB1.out⟩
      · rw [hc2, Bool.true_and] at h
        have HC2 := hidH hc2
        clear hc2
        have ⟨hq1, hq2⟩ := of_decide_eq_true HC2.out
        · have HC3 := hidH h
          clear h
          go_enter Try.func19, Try.ntmps19
          go_wp2_with fail
          refine (tableValid_any _ zs0 _ _ _ HV0_0.out).mono ?_; rintro e w1 ⟨rfl, hb⟩
          have HV0_1 := hidH (HV0_0.out.below hb)
          clear HV0_0
          have HB1 := hidH (HB0.out.trans (hb.mono HB0.out.size))
          clear hb HB0
          rw [HC0.out]
          go_wp2_with fail
          refine (within_any (n2) 1000000000 (by omega) (by omega) _).mono ?_; rintro e w_ ⟨rfl, rfl⟩
          rw [HC2.out]
          rw [HTN.out, HZD.out] at HC3
          have hcw : w1.cell? ⟨b0, off0 + k, none⟩ = some (.int .i64 z) := by rw [HB1.out.cell (p := ⟨b0, off0 + k, none⟩) hbz]; exact hcz
          go_wp2_with fail
          refine (within_any (z + n2) 1000000000 (by omega) (by omega) _).mono ?_; rintro e w_ ⟨rfl, rfl⟩
          rw [HC3.out]
          go_wp2_with fail
          go_ret2
          exact ⟨_, rfl, Row.nil _ _ _ _ _ (Nat.zero_le _) (fun _ => rfl), HB1.out⟩
set_option maxHeartbeats 800000 in
theorem put_yes (v0 : Value) (zs0 : List Int) (n1 : Int) (n2 : Int) (w : World) (lo0 hi0 : Nat) (hv0 : Lies w lo0 hi0 v0 zs0) (hc0 : (tableOk zs0) = true) (hc1 : (atOk zs0 n1) = true) (hc2 : (inB 1000000000 (n2)) = true) (hc3 : (inB 1000000000 (zs0.getD n1.toNat 0 + n2)) = true) : Calls Try.prog 19 #[v0, .int .i64 n1, .int .i64 n2] w (NewRowB (putL zs0 n1.toNat n2) true w) := by
  have HV0_0 := hidH hv0
  obtain ⟨a0, cap0, rfl, hlc0, hcm0, hnil0, hcell0⟩ := hv0
  have HCELL := hidH hcell0
  clear hcell0
  unfold maxLen at hcm0
  have HB0 := hidH (Below.refl w.heap.size w)
  have HC0 := hidH hc0
  have HC1 := hidH hc1
  have HC2 := hidH hc2
  have HC3 := hidH hc3
  clear hc0 hc1 hc2 hc3
  have ⟨ht1_0, ht1_1⟩ := of_decide_eq_true HC1.out
  obtain ⟨k, rfl⟩ := Int.eq_ofNat_of_zero_le ht1_0
  obtain ⟨z, hz⟩ := get_lt zs0 k (by omega)
  obtain ⟨b0, off0, rfl, hlo0, hhi0, hcz⟩ := HCELL.out k z hz
  have hbz := cell_blk _ _ _ hcz
  have ⟨hz1, hz2⟩ := tab_bd HC0.out hz
  have HZD := hidH (getD_of hz)
  have HTN := hidH (Int.toNat_natCast k)
  have ⟨hq1, hq2⟩ := of_decide_eq_true HC2.out
  have HZ := hidH hz
  clear hz
  have ⟨hl1, hl2⟩ := tableOk_len _ HC0.out
  go_enter Try.func19, Try.ntmps19
  go_wp2_with fail
  refine (tableValid_any _ zs0 _ _ _ HV0_0.out).mono ?_; rintro e w1 ⟨rfl, hb⟩
  have HV0_1 := hidH (HV0_0.out.below hb)
  clear HV0_0
  have HB1 := hidH (HB0.out.trans (hb.mono HB0.out.size))
  clear hb HB0
  rw [HC0.out]
  go_wp2_with fail
  refine (within_any (n2) 1000000000 (by omega) (by omega) _).mono ?_; rintro e w_ ⟨rfl, rfl⟩
  rw [HC2.out]
  rw [HTN.out, HZD.out] at HC3
  have hcw : w1.cell? ⟨b0, off0 + k, none⟩ = some (.int .i64 z) := by rw [HB1.out.cell (p := ⟨b0, off0 + k, none⟩) hbz]; exact hcz
  go_wp2_with fail
  refine (within_any (z + n2) 1000000000 (by omega) (by omega) _).mono ?_; rintro e w_ ⟨rfl, rfl⟩
  rw [HC3.out]
  have hzl : zs0.length ≤ 1048576 := by omega
  go_wp2_with fail
  refine (clone_any _ zs0 _ _ _ HV0_1.out (by omega) hzl).mono ?_; rintro e w8 ⟨v8, rfl, hr, hb⟩
  obtain ⟨b8, c8, rfl, hlc8, hcm8, hlo8, hhi8, hblk⟩ := hr.blk (by omega)
  have HBK := hidH hblk
  have HB8 := hidH (HB1.out.trans (hb.mono HB1.out.size))
  have hsz8 := HB1.out.size
  clear hr hb hblk
  obtain ⟨hc8, hf8⟩ := HBK.out.2 k z HZ.out
  have HST := hidH (HBK.out.set k (z + n2))
  unfold maxLen at hcm8
  go_wp2_with fail
  go_ret2
  rw [HTN.out, putL, HZD.out]
  exact ⟨_, rfl, HST.out.row (by omega) HST.out.1 (by simpa using hlc8) (by unfold maxLen; omega) (by simp), HB8.out.setCell (by show w.heap.size ≤ b8; omega) _⟩
theorem put_any (v0 : Value) (zs0 : List Int) (n1 : Int) (n2 : Int) (w : World) (lo0 hi0 : Nat) (hv0 : Lies w lo0 hi0 v0 zs0) : Calls Try.prog 19 #[v0, .int .i64 n1, .int .i64 n2] w (NewRowB (putA zs0 n1 n2) (putOk zs0 n1 n2) w) := by
  unfold putA putOk
  cases h : (tableOk zs0 && (atOk zs0 n1 && (inB 1000000000 n2 && inB 1000000000 (zs0.getD n1.toNat 0 + n2))))
  · exact put_no v0 zs0 n1 n2 w lo0 hi0 hv0 h
  · have h' := h
    simp only [Bool.and_eq_true] at h'
    obtain ⟨h0, h1, h2, h3⟩ := h'
    exact put_yes v0 zs0 n1 n2 w lo0 hi0 hv0 h0 h1 h2 h3
theorem sPut4_any (v : Value) (zs : List Int) (k : Nat) (z a : Int) (w : World) (lo hi : Nat) (hv : Lies w lo hi v zs) (hz : zs[k]? = some z) (hn : zs.length ≤ 1048576) (h1 : -4611686018427387904 ≤ z + a) (h2 : z + a ≤ 4611686018427387904) : Calls Try.prog 53 #[v, .int .i64 k, .int .i64 a] w (NewRow (putL zs k a) w) := by
  have hk := (List.getElem?_eq_some_iff.1 hz).1
  obtain ⟨b, off, cap, rfl, hlc, hcm, _, _, _, hcell⟩ := hv.addr (by omega)
  obtain ⟨i0, hi0, hz0, hz1, hz2⟩ := info_parts infoInt
  have HC := hidH (cells_map hcell)
  have HO := hidH (oneCells zs)
  have HZ := hidH hz
  have HZD := hidH (getD_of hz)
  clear hcell hz
  unfold maxLen at hcm
  go_enter Try.func53, Try.ntmps53
  go_wp2_with (at_builtin; refine wpList_append_own _ rfl _ _ 23 rfl w.heap.size 3 i0 (.int .i64 0) 1 8 Try.underlying23 hi0 hz0 hz1 hz2 rfl (by decide) _ _ _ rfl (World.ownsRow_made w #[] 0 (Nat.le_refl _) (Nat.zero_le _) rfl) ⟨b, off, none⟩ zs.length cap (ints zs) rfl ?qc1 ?qc2 HO.out ?qc4 ?qc5 ?qc6 ?_)
  case qc1 => rw [ints_length, Nat.mul_one]
  case qc2 => exact HC.out _ ((Below.refl _ _).alloc (Nat.le_refl _) _)
  case qc4 => unfold maxLen; omega
  case qc5 => omega
  case qc6 => simp
  intro v' w1 hown hgrow hnil
  have HB1 := hidH (((Below.refl w.heap.size w).alloc (Nat.le_refl _) (.cells #[] 3)).grown hgrow (by simp) (by intro k hk; simp [Value.ownBlock] at hk; omega))
  have hr := (row_of_owns hown).1
  obtain ⟨b8, c8, rfl, hlc8, hcm8, hlo8, hhi8, hblk⟩ := hr.blk (by omega)
  have HBK := hidH hblk
  clear hown hgrow hnil hr hblk
  obtain ⟨hc8, hf8⟩ := HBK.out.2 k z HZ.out
  have HST := hidH (HBK.out.set k (z + a))
  unfold maxLen at hcm8
  go_wp2_with fail
  go_ret
  rw [putL, HZD.out]
  exact ⟨_, rfl, HST.out.row (by omega) HST.out.1 (by simpa using hlc8) (by unfold maxLen; omega) (by simp), HB1.out.setCell (by show w.heap.size ≤ b8; omega) _⟩
def sAtOk (zs : List Int) (k : Int) : Bool := decide (0 ≤ k ∧ k ≤ (zs.length : Int) - 1)
theorem sAtOk_eq (zs : List Int) (k : Int) : sAtOk zs k = atOk zs k := by
  unfold sAtOk atOk
  rw [Bool.eq_iff_iff, decide_eq_true_eq, decide_eq_true_eq]; omega
theorem sPut_no (v0 : Value) (zs0 : List Int) (n1 : Int) (n2 : Int) (w : World) (lo0 hi0 : Nat) (hv0 : Lies w lo0 hi0 v0 zs0) (h : (((tableOk zs0) && ((sAtOk zs0 n1) && (inB 1000000000 (n2))))) = false) : Calls Try.prog 21 #[v0, .int .i64 n1, .int .i64 n2] w (NewRowB [] false w) := by
  have HV0_0 := hidH hv0
  obtain ⟨a0, cap0, rfl, hlc0, hcm0, hnil0, hcell0⟩ := hv0
  clear hnil0 hcell0
  unfold maxLen at hcm0
  have HB0 := hidH (Below.refl w.heap.size w)
  cases hc0 : tableOk zs0
  · have HC0 := hidH hc0
    clear h hc0
    go_enter Try.func21, Try.ntmps21
    go_wp2_with fail
    refine (sTableValid_gives _ zs0 _ _ _ HV0_0.out).mono ?_; rintro e w1 ⟨rfl, hb⟩
    have HV0_1 := hidH (HV0_0.out.below hb)
    clear HV0_0
    have HB1 := hidH (HB0.out.trans (hb.mono HB0.out.size))
    clear hb HB0
    rw [HC0.out]
    go_wp2_with fail
    go_ret2
    exact ⟨_, rfl, Row.nil _ _ _ _ _ (Nat.zero_le _) (fun _ => rfl), HB1.out.trans (((Below.refl _ _).alloc (Nat.le_refl _) _).mono HB1.out.size)⟩
  · rw [hc0, Bool.true_and] at h
    have HC0 := hidH hc0
    clear hc0
    cases hc1 : sAtOk zs0 n1
    · have HC1 := hidH hc1
      clear h hc1
      go_enter Try.func21, Try.ntmps21
      go_wp2_with fail
      refine (sTableValid_gives _ zs0 _ _ _ HV0_0.out).mono ?_; rintro e w1 ⟨rfl, hb⟩
      have HV0_1 := hidH (HV0_0.out.below hb)
      clear HV0_0
      have HB1 := hidH (HB0.out.trans (hb.mono HB0.out.size))
      clear hb HB0
      rw [HC0.out]
      go_wp2_with fail
      refine (sIn_any (n1) (0) ((zs0.length : Int) - 1) (sAtOk zs0 n1) rfl _).mono ?_; rintro e w_ ⟨rfl, rfl⟩
      rw [HC1.out]
      go_wp2_with fail
      go_ret2
      exact ⟨_, rfl, Row.nil _ _ _ _ _ (Nat.zero_le _) (fun _ => rfl), HB1.out.trans (((Below.refl _ _).alloc (Nat.le_refl _) _).mono HB1.out.size)⟩
    · rw [hc1, Bool.true_and] at h
      have HC1 := hidH hc1
      clear hc1
      have ⟨ht1_0, ht1_1⟩ := of_decide_eq_true HC1.out
      · have HC2 := hidH h
        clear h
        go_enter Try.func21, Try.ntmps21
        go_wp2_with fail
        refine (sTableValid_gives _ zs0 _ _ _ HV0_0.out).mono ?_; rintro e w1 ⟨rfl, hb⟩
        have HV0_1 := hidH (HV0_0.out.below hb)
        clear HV0_0
        have HB1 := hidH (HB0.out.trans (hb.mono HB0.out.size))
        clear hb HB0
        rw [HC0.out]
        go_wp2_with fail
        refine (sIn_any (n1) (0) ((zs0.length : Int) - 1) (sAtOk zs0 n1) rfl _).mono ?_; rintro e w_ ⟨rfl, rfl⟩
        rw [HC1.out]
        go_wp2_with fail
        refine (sAmt4_any (n2) _).mono ?_; rintro e w_ ⟨rfl, rfl⟩
        rw [HC2.out]
        go_wp2_with fail
        go_ret2
        exact ⟨_, rfl, Row.nil _ _ _ _ _ (Nat.zero_le _) (fun _ => rfl), HB1.out.trans (((Below.refl _ _).alloc (Nat.le_refl _) _).mono HB1.out.size)⟩
set_option maxHeartbeats 800000 in
theorem sPut_yes (v0 : Value) (zs0 : List Int) (n1 : Int) (n2 : Int) (w : World) (lo0 hi0 : Nat) (hv0 : Lies w lo0 hi0 v0 zs0) (hc0 : (tableOk zs0) = true) (hc1 : (sAtOk zs0 n1) = true) (hc2 : (inB 1000000000 (n2)) = true) : Calls Try.prog 21 #[v0, .int .i64 n1, .int .i64 n2] w (NewRowB (putA zs0 n1 n2) (putOk zs0 n1 n2) w) := by
  have HV0_0 := hidH hv0
  obtain ⟨a0, cap0, rfl, hlc0, hcm0, hnil0, hcell0⟩ := hv0
  clear hnil0 hcell0
  unfold maxLen at hcm0
  have HB0 := hidH (Below.refl w.heap.size w)
  have HC0 := hidH hc0
  have HC1 := hidH hc1
  have HC2 := hidH hc2
  clear hc0 hc1 hc2
  have ⟨ht1_0, ht1_1⟩ := of_decide_eq_true HC1.out
  obtain ⟨k, rfl⟩ := Int.eq_ofNat_of_zero_le ht1_0
  obtain ⟨z, hz⟩ := get_lt zs0 k (by omega)
  have ⟨hz1, hz2⟩ := tab_bd HC0.out hz
  have HZD := hidH (getD_of hz)
  have HTN := hidH (Int.toNat_natCast k)
  have ⟨hl1, hl2⟩ := tableOk_len _ HC0.out
  have ⟨hq1, hq2⟩ := of_decide_eq_true HC2.out
  have HZ := hidH hz
  clear hz
  go_enter Try.func21, Try.ntmps21
  go_wp2_with fail
  refine (sTableValid_gives _ zs0 _ _ _ HV0_0.out).mono ?_; rintro e w1 ⟨rfl, hb⟩
  have HV0_1 := hidH (HV0_0.out.below hb)
  clear HV0_0
  have HB1 := hidH (HB0.out.trans (hb.mono HB0.out.size))
  clear hb HB0
  rw [HC0.out]
  go_wp2_with fail
  refine (sIn_any (k : Int) 0 ((zs0.length : Int) - 1) (sAtOk zs0 (k : Int)) rfl _).mono ?_; rintro e w_ ⟨rfl, rfl⟩
  rw [HC1.out]
  go_wp2_with fail
  refine (sAmt4_any (n2) _).mono ?_; rintro e w_ ⟨rfl, rfl⟩
  rw [HC2.out]
  go_wp2_with fail
  refine (sPut4_any _ zs0 k z n2 _ _ _ HV0_1.out HZ.out (by omega) (by omega) (by omega)).mono ?_; rintro e w8 ⟨v8, rfl, hr, hb⟩
  have HR := hidH hr
  have HB8 := hidH (HB1.out.trans (hb.mono HB1.out.size))
  have hsz8 := HB1.out.size
  clear hr hb
  cases hin : inB 1000000000 (z + n2)
  · have HE := hidH (show putOk zs0 (k : Int) n2 = false by rw [putOk, HTN.out, HZD.out, hin]; simp)
    have HE2 := hidH (show putA zs0 (k : Int) n2 = [] by rw [putA, HE.out]; rfl)
    have HT := hidH ((tab_put zs0 k n2 z HC0.out HZ.out).trans hin)
    clear hin
    go_wp2_with fail
    refine (sTableValid_gives _ _ _ _ _ HR.out.lies).mono ?_; rintro e w9 ⟨rfl, hb⟩
    rw [HT.out]
    have HB9 := hidH (HB8.out.trans (hb.mono HB8.out.size))
    clear hb
    go_wp2_with fail
    go_ret2
    rw [HE.out, HE2.out]
    exact ⟨_, rfl, Row.nil _ _ _ _ _ (Nat.zero_le _) (fun _ => rfl), HB9.out.alloc HB9.out.size _⟩
  · have HE := hidH (show putOk zs0 (k : Int) n2 = true by rw [putOk, HTN.out, HZD.out, hin, HC0.out, ← sAtOk_eq, HC1.out, HC2.out]; rfl)
    have HE2 := hidH (show putA zs0 (k : Int) n2 = putL zs0 k n2 by rw [putA, HE.out, HTN.out]; rfl)
    have HT := hidH ((tab_put zs0 k n2 z HC0.out HZ.out).trans hin)
    clear hin
    go_wp2_with fail
    refine (sTableValid_gives _ _ _ _ _ HR.out.lies).mono ?_; rintro e w9 ⟨rfl, hb⟩
    rw [HT.out]
    have HB9 := hidH (HB8.out.trans (hb.mono HB8.out.size))
    have HR9 := hidH (HR.out.below hb)
    have hsz9 := hb.size
    clear hb
    go_wp2_with fail
    go_ret2
    rw [HE.out, HE2.out]
    exact ⟨_, rfl, HR9.out.mono (by omega) (by omega), HB9.out⟩
theorem sPut_any (v0 : Value) (zs0 : List Int) (n1 n2 : Int) (w : World) (lo0 hi0 : Nat) (hv0 : Lies w lo0 hi0 v0 zs0) : Calls Try.prog 21 #[v0, .int .i64 n1, .int .i64 n2] w (NewRowB (putA zs0 n1 n2) (putOk zs0 n1 n2) w) := by
  cases h : (tableOk zs0 && (sAtOk zs0 n1 && inB 1000000000 n2))
  · have e : putOk zs0 n1 n2 = false := by
      rw [sAtOk_eq] at h
      rw [putOk]
      cases h0 : tableOk zs0
      · rfl
      · cases h1 : atOk zs0 n1
        · rfl
        · rw [h0, h1, Bool.true_and, Bool.true_and] at h
          rw [h]; rfl
    rw [putA, e]
    exact sPut_no v0 zs0 n1 n2 w lo0 hi0 hv0 h
  · have h' := h
    simp only [Bool.and_eq_true] at h'
    obtain ⟨h0, h1, h2⟩ := h'
    exact sPut_yes v0 zs0 n1 n2 w lo0 hi0 hv0 h0 h1 h2
end Go.Proofs.Ytlicihjjbojpcaa
