/-
  Sums of polynomials: the program and the model, at every argument. No conditions but that slices fit in memory.
-/
import Derived.Test.YtnbggjdmpgjkgaaPolyFc
namespace Go.Proofs.Ytnbggjdmpgjkgaa
open Go.RowKit
/-- A list with zeros up to a length. -/
def padL (zs : List Int) (M : Nat) : List Int := zs ++ List.replicate (M - zs.length) 0
theorem padL_length (zs : List Int) (M : Nat) (h : zs.length ≤ M) : (padL zs M).length = M := by simp [padL]; omega
theorem padL_get (zs : List Int) (M i : Nat) (h : zs.length ≤ M) (hi : i < M) : (padL zs M)[i]? = some (zs.getD i 0) := by
  unfold padL
  by_cases hz : i < zs.length
  · rw [List.getElem?_append_left hz, List.getD_eq_getElem?_getD, List.getElem?_eq_getElem hz]; rfl
  · rw [List.getElem?_append_right (by omega), List.getElem?_replicate, if_pos (by omega), List.getD_eq_getElem?_getD, List.getElem?_eq_none (by omega)]; rfl
/-- The sums of two lists, the shorter one with zeros. -/
def addL (zs ys : List Int) (M : Nat) : List Int := (List.range M).map fun (i : Nat) => zs.getD i 0 + ys.getD i 0
theorem addL_length (zs ys : List Int) (M : Nat) : (addL zs ys M).length = M := by simp [addL]
theorem addL_get (zs ys : List Int) (M i : Nat) (h : i < M) : (addL zs ys M)[i]? = some (zs.getD i 0 + ys.getD i 0) := by simp [addL, h]
theorem add_done (zs ys : List Int) (M : Nat) (hz : zs.length ≤ M) (hy : ys.length ≤ M) : over (addL zs ys M) (padL zs M) ys.length = addL zs ys M := by
  refine list_ext (by unfold over; simp [padL_length _ _ hz, addL_length]; omega) fun i x y hx hyy => ?_
  have hi : i < M := by have := (List.getElem?_eq_some_iff.1 hyy).1; rwa [addL_length] at this
  unfold over at hx
  by_cases hk : i < ys.length
  · rw [List.getElem?_append_left (by rw [List.length_take, addL_length]; omega), List.getElem?_take, if_pos hk] at hx
    rw [hx] at hyy; injection hyy
  · rw [List.getElem?_append_right (by rw [List.length_take, addL_length]; omega), List.length_take, addL_length, Nat.min_eq_left hy, List.getElem?_drop, show ys.length + (i - ys.length) = i by omega, padL_get _ _ _ hz hi] at hx
    rw [addL_get _ _ _ _ hi] at hyy
    injection hx with hx
    injection hyy with hyy
    rw [← hx, ← hyy, List.getD_eq_getElem?_getD (l := ys), List.getElem?_eq_none (by omega)]
    simp
theorem getD_at (zs : List Int) (i : Nat) (z : Int) (h : zs[i]? = some z) : zs.getD i 0 = z := by rw [List.getD_eq_getElem?_getD, h]; rfl
theorem getD_bd {zs : List Int} (h : Small zs) (i : Nat) : -100000 ≤ zs.getD i 0 ∧ zs.getD i 0 ≤ 100000 := by
  rw [List.getD_eq_getElem?_getD]
  cases hi : zs[i]? with
  | none => simp
  | some z => exact h.2 z (List.mem_of_getElem? hi)
theorem splice_pad (zs : List Int) (M : Nat) : splice (ints (List.replicate M 0)) 0 (ints zs) = ints (padL zs M) := by
  simp [splice, ints, padL, List.drop_replicate]
/-- What AddPolys answers. -/
def addM (zs ys : List Int) : Nat := max zs.length ys.length
def addA (zs ys : List Int) : List Int := if polyOk zs && polyOk ys then resL (addL zs ys (addM zs ys)) else []
def addB (zs ys : List Int) : Bool := polyOk zs && polyOk ys && polyOk (addL zs ys (addM zs ys))
theorem addA_len (zs ys : List Int) : (addA zs ys).length ≤ 1048576 := by unfold addA; split <;> first | exact resL_len _ | simp
theorem pad_all (zs : List Int) : padL zs zs.length = zs := by simp [padL]
theorem add_no (v0 : Value) (zs0 : List Int) (v1 : Value) (zs1 : List Int) (w : World) (lo0 hi0 : Nat) (lo1 hi1 : Nat) (hv0 : Lies w lo0 hi0 v0 zs0) (hv1 : Lies w lo1 hi1 v1 zs1) (h : (polyOk zs0 && polyOk zs1) = false) : Calls Try.prog 33 #[v0, v1] w (NewRowB [] false w) := by
  have HV0_0 := hidH hv0
  clear hv0
  have HV1_0 := hidH hv1
  clear hv1
  have HB0 := hidH (Below.refl w.heap.size w)
  cases hc0 : polyOk zs0
  · have HC0 := hidH hc0
    clear h hc0
    go_enter Try.func33, Try.ntmps33
    go_wp2_with fail
    refine (polyValid_any v0 zs0 _ _ _ HV0_0.out).mono ?_; rintro e w1 ⟨rfl, hb⟩
    have HV0_1 := hidH (HV0_0.out.below hb)
    clear HV0_0
    have HV1_1 := hidH (HV1_0.out.below hb)
    clear HV1_0
    have HB1 := hidH (HB0.out.trans (hb.mono HB0.out.size))
    clear hb HB0
    rw [HC0.out]
    go_wp2_with fail
    go_ret2
    exact ⟨_, rfl, Row.nil _ _ _ _ _ (Nat.zero_le _) (fun _ => rfl), HB1.out⟩
  · rw [hc0, Bool.true_and] at h
    have HC0 := hidH hc0
    clear hc0
    · have HC1 := hidH h
      clear h
      go_enter Try.func33, Try.ntmps33
      go_wp2_with fail
      refine (polyValid_any v0 zs0 _ _ _ HV0_0.out).mono ?_; rintro e w1 ⟨rfl, hb⟩
      have HV0_1 := hidH (HV0_0.out.below hb)
      clear HV0_0
      have HV1_1 := hidH (HV1_0.out.below hb)
      clear HV1_0
      have HB1 := hidH (HB0.out.trans (hb.mono HB0.out.size))
      clear hb HB0
      rw [HC0.out]
      go_wp2_with fail
      refine (polyValid_any v1 zs1 _ _ _ HV1_1.out).mono ?_; rintro e w2 ⟨rfl, hb⟩
      have HV0_2 := hidH (HV0_1.out.below hb)
      clear HV0_1
      have HV1_2 := hidH (HV1_1.out.below hb)
      clear HV1_1
      have HB2 := hidH (HB1.out.trans (hb.mono HB1.out.size))
      clear hb HB1
      rw [HC1.out]
      go_wp2_with fail
      go_ret2
      exact ⟨_, rfl, Row.nil _ _ _ _ _ (Nat.zero_le _) (fun _ => rfl), HB2.out⟩
set_option maxHeartbeats 800000 in
theorem add_yes (v0 : Value) (zs0 : List Int) (v1 : Value) (zs1 : List Int) (w : World) (lo0 hi0 : Nat) (lo1 hi1 : Nat) (hv0 : Lies w lo0 hi0 v0 zs0) (hv1 : Lies w lo1 hi1 v1 zs1) (hc0 : (polyOk zs0) = true) (hc1 : (polyOk zs1) = true) : Calls Try.prog 33 #[v0, v1] w (NewRowB (resL (addL zs0 zs1 (addM zs0 zs1))) (polyOk (addL zs0 zs1 (addM zs0 zs1))) w) := by
  have HV0_0 := hidH hv0
  clear hv0
  have HV1_0 := hidH hv1
  clear hv1
  have HB0 := hidH (Below.refl w.heap.size w)
  have HC0 := hidH hc0
  have HC1 := hidH hc1
  have ⟨h1, hs⟩ := polyOk_small _ HC0.out
  have h7 := hs.1
  have HS := hidH hs
  have ⟨h1y, hsy⟩ := polyOk_small _ HC1.out
  have h7y := hsy.1
  have HSY := hidH hsy
  clear hs hsy
  obtain ⟨M, hM1, hM2, hM3⟩ : ∃ M, addM zs0 zs1 = M ∧ zs0.length ≤ M ∧ zs1.length ≤ M := ⟨_, rfl, Nat.le_max_left _ _, Nat.le_max_right _ _⟩
  have hM4 : M ≤ 7 := by unfold addM at hM1; omega
  rw [hM1]
  have HPL := hidH (padL_length zs0 M hM2)
  have HAL := hidH (addL_length zs0 zs1 M)
  have HAP := hidH (show (addL zs0 zs1 M).length = (padL zs0 M).length by rw [addL_length, padL_length zs0 M hM2])
  have HDN := hidH (add_done zs0 zs1 M hM2 hM3)
  have HSPL := hidH (splice_pad zs0 M)
  obtain ⟨b0, off0, cap0, rfl, hlc0, hcm0, _, _, _, hcell0⟩ := HV0_0.out.addr (by omega)
  obtain ⟨b1, off1, cap1, rfl, hlc1, hcm1, _, _, _, hcell1⟩ := HV1_0.out.addr (by omega)
  have HC0L := hidH hcell0
  have HC1L := hidH hcell1
  clear hcell0 hcell1
  unfold maxLen at hcm0 hcm1
  have hcase : (zs1.length ≤ zs0.length ∧ M = zs0.length) ∨ (zs0.length < zs1.length ∧ M = zs1.length) := by unfold addM at hM1; omega
  clear hM1
  clear hc0 hc1
  go_enter Try.func33, Try.ntmps33
  go_wp2_with fail
  refine (polyValid_any _ zs0 _ _ _ HV0_0.out).mono ?_; rintro e w1 ⟨rfl, hb⟩
  have HV0_1 := hidH (HV0_0.out.below hb)
  clear HV0_0
  have HV1_1 := hidH (HV1_0.out.below hb)
  clear HV1_0
  have HB1 := hidH (HB0.out.trans (hb.mono HB0.out.size))
  clear hb HB0
  rw [HC0.out]
  go_wp2_with fail
  refine (polyValid_any _ zs1 _ _ _ HV1_1.out).mono ?_; rintro e w2 ⟨rfl, hb⟩
  have HV0_2 := hidH (HV0_1.out.below hb)
  clear HV0_1
  have HV1_2 := hidH (HV1_1.out.below hb)
  clear HV1_1
  have HB2 := hidH (HB1.out.trans (hb.mono HB1.out.size))
  clear hb HB1
  rw [HC1.out]
  have HB0q := HB2
  have HM := hidH (show ((w2).alloc (.cells (madeCells #[Value.int .i64 0] M) 3)).heap[(w2).heap.size]? = some (.cells (ints (List.replicate M 0)).toArray 3 (0, 0)) by rw [made_ints]; exact heap_alloc_new w2 _)
  have hmk := run_make_row' (P := Try.prog) 28 3 (.int .i64 0) 8 Try.underlying28 infoInt rfl .i64 .i64 M (by omega) (by omega) w2
  have HY := hidH (cells_map (zs := zs0) (b := b0) (off := off0) (w := w2) fun j z hj => by have h0 := HC0L.out j z hj; rw [HB2.out.cell (p := ⟨b0, off0 + j, none⟩) (cell_blk _ _ _ h0)]; exact h0)
  have HLI := hidH (show (ints zs0).length = Nat.min zs0.length M by rw [ints_length]; exact (Nat.min_eq_left hM2).symm)
  have HLE := hidH (show 0 + (ints zs0).length ≤ (ints (List.replicate M 0)).length by rw [ints_length, ints_length, List.length_replicate]; omega)
  rcases hcase with ⟨hcs, hce⟩ | ⟨hcs, hce⟩
  · rw [show ((M : Nat) : Int) = (zs0.length : Int) by omega] at hmk
    clear hce
    go_wp2_with (with_reducible refine wpList_copy_splice rfl _ _ _ _ rfl 3 Try.underlying28 (by kernel_rfl) (some ⟨(w2).heap.size, 0, none⟩) (some ⟨b0, off0, none⟩) M M zs0.length cap0 rfl rfl (w2).heap.size 0 (ints (List.replicate M 0)) 3 HM.out (ints zs0) HLI.out (fun _ => ⟨rfl, _, rfl, HY.out _ ((Below.refl _ _).alloc (Nat.le_refl _) _)⟩) HLE.out (oneCells zs0) (w2).heap.size w2 ((Below.refl _ _).alloc (Nat.le_refl _) _) (Nat.le_refl _) ?_)
    intro w5 hheap hB5
    have HH := hidH (show w5.heap[(w2).heap.size]? = some (.cells (ints (padL zs0 M)).toArray 3 (0, 0)) by rw [← HSPL.out]; exact hheap.out)
    have HB5 := hidH hB5
    clear hheap hB5
    go_wp2_with fail
    go_loopw [27] (fun i wr => ∃ k : Nat, k ≤ zs1.length ∧ i = .int .i64 k ∧ Blk wr (w2).heap.size (over (addL zs0 zs1 M) (padL zs0 M) k) ∧ Below (w2).heap.size w2 wr) (fun i _ => zs1.length - (intOf i).toNat)
    case atStart => exact ⟨0, Nat.zero_le _, rfl, by rw [over_zero]; exact blk_of_heap HH.out, HB5.out⟩
    case round =>
      obtain ⟨k, hk, rfl, hblk, hb⟩ := hrel
      have HBK := hidH hblk
      have HBq := hidH hb
      clear hblk hb
      by_cases hlt : k < zs1.length
      · obtain ⟨z, hz⟩ := get_lt zs1 k hlt
        have HZD := hidH (getD_at _ _ _ hz)
        have ⟨g1, g2⟩ := HSY.out.2 z (List.mem_of_getElem? hz)
        have ⟨g3, g4⟩ := getD_bd HS.out k
        have hc0 := HC1L.out k z hz
        have hcw : wr.cell? ⟨b1, off1 + k, none⟩ = some (.int .i64 z) := by rw [(HB0q.out.trans (HBq.out.mono HB0q.out.size)).cell (p := ⟨b1, off1 + k, none⟩) (cell_blk _ _ _ hc0)]; exact hc0
        obtain ⟨ho, hf⟩ := HBK.out.2 k (zs0.getD k 0) (by rw [over_get _ _ _ HAP.out (by rw [HPL.out]; omega)]; exact padL_get _ _ _ hM2 (by omega))
        have HG := hidH (over_set _ _ k _ HAP.out (addL_get zs0 zs1 M k (by omega)))
        generalize hu : zs0.getD k 0 = u at *
        have HU := hidH hu
        clear hu hz hc0
        have hkM : k < M := by omega
        go_wp2_with fail
        go_region
        go_wp2_with fail
        go_roundw
        case rel => exact ⟨k + 1, by omega, by go_num, by rw [← HG.out, HZD.out]; exact (HBK.out.set k _).drewN 1, (HBq.out.setCell (Nat.le_refl _) _).drew⟩
        case measure => simp [intOf]; omega
      · obtain rfl : k = zs1.length := by omega
        have h := HBK.out
        rw [HDN.out] at h
        have HRW := hidH (h.row (lo := (w2).heap.size) (cap := M) (n := M) (Nat.le_refl _) h.1 (by rw [HAL.out]; exact Nat.le_refl _) (by unfold maxLen; omega) HAL.out.symm)
        clear h
        have HT := hidH (ifPoly_any _ _ wr _ (HRW.out))
        generalize addL zs0 zs1 M = L at *
        generalize polyOk L = r at *
        go_wp2_with (go_at_call 54; refine HT.out.mono ?_; rintro e w2 ⟨v2, rfl, hr, hb⟩)
        go_ret2
        have hsz := HB2.out.size
        exact ⟨_, rfl, hr.mono hsz (Nat.le_refl _), HB2.out.trans ((HBq.out.trans (hb.mono HBq.out.size)).mono hsz)⟩
  · rw [show ((M : Nat) : Int) = (zs1.length : Int) by omega] at hmk
    clear hce
    go_wp2_with (with_reducible refine wpList_copy_splice rfl _ _ _ _ rfl 3 Try.underlying28 (by kernel_rfl) (some ⟨(w2).heap.size, 0, none⟩) (some ⟨b0, off0, none⟩) M M zs0.length cap0 rfl rfl (w2).heap.size 0 (ints (List.replicate M 0)) 3 HM.out (ints zs0) HLI.out (fun _ => ⟨rfl, _, rfl, HY.out _ ((Below.refl _ _).alloc (Nat.le_refl _) _)⟩) HLE.out (oneCells zs0) (w2).heap.size w2 ((Below.refl _ _).alloc (Nat.le_refl _) _) (Nat.le_refl _) ?_)
    intro w5 hheap hB5
    have HH := hidH (show w5.heap[(w2).heap.size]? = some (.cells (ints (padL zs0 M)).toArray 3 (0, 0)) by rw [← HSPL.out]; exact hheap.out)
    have HB5 := hidH hB5
    clear hheap hB5
    go_wp2_with fail
    go_loopw [27] (fun i wr => ∃ k : Nat, k ≤ zs1.length ∧ i = .int .i64 k ∧ Blk wr (w2).heap.size (over (addL zs0 zs1 M) (padL zs0 M) k) ∧ Below (w2).heap.size w2 wr) (fun i _ => zs1.length - (intOf i).toNat)
    case atStart => exact ⟨0, Nat.zero_le _, rfl, by rw [over_zero]; exact blk_of_heap HH.out, HB5.out⟩
    case round =>
      obtain ⟨k, hk, rfl, hblk, hb⟩ := hrel
      have HBK := hidH hblk
      have HBq := hidH hb
      clear hblk hb
      by_cases hlt : k < zs1.length
      · obtain ⟨z, hz⟩ := get_lt zs1 k hlt
        have HZD := hidH (getD_at _ _ _ hz)
        have ⟨g1, g2⟩ := HSY.out.2 z (List.mem_of_getElem? hz)
        have ⟨g3, g4⟩ := getD_bd HS.out k
        have hc0 := HC1L.out k z hz
        have hcw : wr.cell? ⟨b1, off1 + k, none⟩ = some (.int .i64 z) := by rw [(HB0q.out.trans (HBq.out.mono HB0q.out.size)).cell (p := ⟨b1, off1 + k, none⟩) (cell_blk _ _ _ hc0)]; exact hc0
        obtain ⟨ho, hf⟩ := HBK.out.2 k (zs0.getD k 0) (by rw [over_get _ _ _ HAP.out (by rw [HPL.out]; omega)]; exact padL_get _ _ _ hM2 (by omega))
        have HG := hidH (over_set _ _ k _ HAP.out (addL_get zs0 zs1 M k (by omega)))
        generalize hu : zs0.getD k 0 = u at *
        have HU := hidH hu
        clear hu hz hc0
        have hkM : k < M := by omega
        go_wp2_with fail
        go_region
        go_wp2_with fail
        go_roundw
        case rel => exact ⟨k + 1, by omega, by go_num, by rw [← HG.out, HZD.out]; exact (HBK.out.set k _).drewN 1, (HBq.out.setCell (Nat.le_refl _) _).drew⟩
        case measure => simp [intOf]; omega
      · obtain rfl : k = zs1.length := by omega
        have h := HBK.out
        rw [HDN.out] at h
        have HRW := hidH (h.row (lo := (w2).heap.size) (cap := M) (n := M) (Nat.le_refl _) h.1 (by rw [HAL.out]; exact Nat.le_refl _) (by unfold maxLen; omega) HAL.out.symm)
        clear h
        have HT := hidH (ifPoly_any _ _ wr _ (HRW.out))
        generalize addL zs0 zs1 M = L at *
        generalize polyOk L = r at *
        go_wp2_with (go_at_call 54; refine HT.out.mono ?_; rintro e w2 ⟨v2, rfl, hr, hb⟩)
        go_ret2
        have hsz := HB2.out.size
        exact ⟨_, rfl, hr.mono hsz (Nat.le_refl _), HB2.out.trans ((HBq.out.trans (hb.mono HBq.out.size)).mono hsz)⟩
theorem add_any (v0 : Value) (zs0 : List Int) (v1 : Value) (zs1 : List Int) (w : World) (lo0 hi0 : Nat) (lo1 hi1 : Nat) (hv0 : Lies w lo0 hi0 v0 zs0) (hv1 : Lies w lo1 hi1 v1 zs1) : Calls Try.prog 33 #[v0, v1] w (NewRowB (addA zs0 zs1) (addB zs0 zs1) w) := by
  unfold addA addB
  cases h : (polyOk zs0 && polyOk zs1)
  · exact add_no v0 zs0 v1 zs1 w lo0 hi0 lo1 hi1 hv0 hv1 h
  · have h' := h
    try simp only [Bool.and_eq_true] at h'
    exact add_yes v0 zs0 v1 zs1 w lo0 hi0 lo1 hi1 hv0 hv1 h'.1 h'.2
theorem pad_done (zs : List Int) (M : Nat) : over (padL zs M) (List.replicate M 0) zs.length = padL zs M := by
  unfold over padL
  rw [List.take_append_of_le_length (Nat.le_refl _), List.take_length, List.drop_replicate]
theorem rep_at (M k : Nat) (h : k < M) : (List.replicate M (0 : Int))[k]? = some 0 := by rw [List.getElem?_replicate, if_pos h]
theorem sAdd_no (v0 : Value) (zs0 : List Int) (v1 : Value) (zs1 : List Int) (w : World) (lo0 hi0 : Nat) (lo1 hi1 : Nat) (hv0 : Lies w lo0 hi0 v0 zs0) (hv1 : Lies w lo1 hi1 v1 zs1) (h : (polyOk zs0 && polyOk zs1) = false) : Calls Try.prog 34 #[v0, v1] w (NewRowB [] false w) := by
  have HV0_0 := hidH hv0
  clear hv0
  have HV1_0 := hidH hv1
  clear hv1
  have HB0 := hidH (Below.refl w.heap.size w)
  cases hc0 : polyOk zs0
  · have HC0 := hidH hc0
    clear h hc0
    go_enter Try.func34, Try.ntmps34
    go_wp2_with fail
    refine (sPolyValid_gives v0 zs0 _ _ _ HV0_0.out).mono ?_; rintro e w1 ⟨rfl, hb⟩
    have HV0_1 := hidH (HV0_0.out.below hb)
    clear HV0_0
    have HV1_1 := hidH (HV1_0.out.below hb)
    clear HV1_0
    have HB1 := hidH (HB0.out.trans (hb.mono HB0.out.size))
    clear hb HB0
    rw [HC0.out]
    go_wp2_with fail
    go_ret2
    exact ⟨_, rfl, Row.nil _ _ _ _ _ (Nat.zero_le _) (fun _ => rfl), HB1.out.trans (((Below.refl _ _).alloc (Nat.le_refl _) _).mono HB1.out.size)⟩
  · rw [hc0, Bool.true_and] at h
    have HC0 := hidH hc0
    clear hc0
    · have HC1 := hidH h
      clear h
      go_enter Try.func34, Try.ntmps34
      go_wp2_with fail
      refine (sPolyValid_gives v0 zs0 _ _ _ HV0_0.out).mono ?_; rintro e w1 ⟨rfl, hb⟩
      have HV0_1 := hidH (HV0_0.out.below hb)
      clear HV0_0
      have HV1_1 := hidH (HV1_0.out.below hb)
      clear HV1_0
      have HB1 := hidH (HB0.out.trans (hb.mono HB0.out.size))
      clear hb HB0
      rw [HC0.out]
      go_wp2_with fail
      refine (sPolyValid_gives v1 zs1 _ _ _ HV1_1.out).mono ?_; rintro e w2 ⟨rfl, hb⟩
      have HV0_2 := hidH (HV0_1.out.below hb)
      clear HV0_1
      have HV1_2 := hidH (HV1_1.out.below hb)
      clear HV1_1
      have HB2 := hidH (HB1.out.trans (hb.mono HB1.out.size))
      clear hb HB1
      rw [HC1.out]
      go_wp2_with fail
      go_ret2
      exact ⟨_, rfl, Row.nil _ _ _ _ _ (Nat.zero_le _) (fun _ => rfl), HB2.out.trans (((Below.refl _ _).alloc (Nat.le_refl _) _).mono HB2.out.size)⟩
set_option maxHeartbeats 800000 in
theorem sAdd_yes (v0 : Value) (zs0 : List Int) (v1 : Value) (zs1 : List Int) (w : World) (lo0 hi0 : Nat) (lo1 hi1 : Nat) (hv0 : Lies w lo0 hi0 v0 zs0) (hv1 : Lies w lo1 hi1 v1 zs1) (hc0 : (polyOk zs0) = true) (hc1 : (polyOk zs1) = true) : Calls Try.prog 34 #[v0, v1] w (NewRowB (resL (addL zs0 zs1 (addM zs0 zs1))) (polyOk (addL zs0 zs1 (addM zs0 zs1))) w) := by
  have HV0_0 := hidH hv0
  clear hv0
  have HV1_0 := hidH hv1
  clear hv1
  have HB0 := hidH (Below.refl w.heap.size w)
  have HC0 := hidH hc0
  have HC1 := hidH hc1
  have ⟨h1, hs⟩ := polyOk_small _ HC0.out
  have h7 := hs.1
  have HS := hidH hs
  have ⟨h1y, hsy⟩ := polyOk_small _ HC1.out
  have h7y := hsy.1
  have HSY := hidH hsy
  clear hs hsy
  obtain ⟨M, hM1, hM2, hM3⟩ : ∃ M, addM zs0 zs1 = M ∧ zs0.length ≤ M ∧ zs1.length ≤ M := ⟨_, rfl, Nat.le_max_left _ _, Nat.le_max_right _ _⟩
  have hM4 : M ≤ 7 := by unfold addM at hM1; omega
  rw [hM1]
  have HPL := hidH (padL_length zs0 M hM2)
  have HAL := hidH (addL_length zs0 zs1 M)
  have HAP := hidH (show (addL zs0 zs1 M).length = (padL zs0 M).length by rw [addL_length, padL_length zs0 M hM2])
  have HDN := hidH (add_done zs0 zs1 M hM2 hM3)
  have HSPL := hidH (splice_pad zs0 M)
  obtain ⟨b0, off0, cap0, rfl, hlc0, hcm0, _, _, _, hcell0⟩ := HV0_0.out.addr (by omega)
  obtain ⟨b1, off1, cap1, rfl, hlc1, hcm1, _, _, _, hcell1⟩ := HV1_0.out.addr (by omega)
  have HC0L := hidH hcell0
  have HC1L := hidH hcell1
  clear hcell0 hcell1
  unfold maxLen at hcm0 hcm1
  have hcase : (zs1.length ≤ zs0.length ∧ M = zs0.length) ∨ (zs0.length < zs1.length ∧ M = zs1.length) := by unfold addM at hM1; omega
  clear hM1
  clear hc0 hc1
  go_enter Try.func34, Try.ntmps34
  go_wp2_with fail
  refine (sPolyValid_gives _ zs0 _ _ _ HV0_0.out).mono ?_; rintro e w1 ⟨rfl, hb⟩
  have HV0_1 := hidH (HV0_0.out.below hb)
  clear HV0_0
  have HV1_1 := hidH (HV1_0.out.below hb)
  clear HV1_0
  have HB1 := hidH (HB0.out.trans (hb.mono HB0.out.size))
  clear hb HB0
  rw [HC0.out]
  go_wp2_with fail
  refine (sPolyValid_gives _ zs1 _ _ _ HV1_1.out).mono ?_; rintro e w2 ⟨rfl, hb⟩
  have HV0_2 := hidH (HV0_1.out.below hb)
  clear HV0_1
  have HV1_2 := hidH (HV1_1.out.below hb)
  clear HV1_1
  have HB2 := hidH (HB1.out.trans (hb.mono HB1.out.size))
  clear hb HB1
  rw [HC1.out]
  have HB0q := HB2
  have HM := hidH (Blk.made w2 3 M)
  have HPR := hidH (show (padL zs0 M).length = (List.replicate M (0 : Int)).length by rw [padL_length zs0 M hM2, List.length_replicate])
  have HPD := hidH (pad_done zs0 M)
  have hmk := run_make_row' (P := Try.prog) 28 3 (.int .i64 0) 8 Try.underlying28 infoInt rfl .i64 .i64 M (by omega) (by omega) w2
  rcases hcase with ⟨hcs, hce⟩ | ⟨hcs, hce⟩
  · rw [show ((M : Nat) : Int) = (zs0.length : Int) by omega] at hmk
    clear hce
    go_wp2_with fail
    go_loopw [7] (fun i wr => ∃ k : Nat, k ≤ zs0.length ∧ i = .int .i64 k ∧ Blk wr (w2).heap.size (over (padL zs0 M) (List.replicate M 0) k) ∧ Below (w2).heap.size w2 wr) (fun i _ => zs0.length - (intOf i).toNat)
    case atStart => exact ⟨0, Nat.zero_le _, rfl, by rw [over_zero]; exact HM.out, (Below.refl _ _).alloc (Nat.le_refl _) _⟩
    case round =>
      obtain ⟨k, hk, rfl, hblk, hb⟩ := hrel
      have HBK := hidH hblk
      have HBq := hidH hb
      clear hblk hb
      by_cases hlt : k < zs0.length
      · obtain ⟨z, hz⟩ := get_lt zs0 k hlt
        have HZD := hidH (getD_at _ _ _ hz)
        have ⟨g1, g2⟩ := HS.out.2 z (List.mem_of_getElem? hz)
        have hc0 := HC0L.out k z hz
        have hcw : wr.cell? ⟨b0, off0 + k, none⟩ = some (.int .i64 z) := by rw [(HB0q.out.trans (HBq.out.mono HB0q.out.size)).cell (p := ⟨b0, off0 + k, none⟩) (cell_blk _ _ _ hc0)]; exact hc0
        obtain ⟨ho, hf⟩ := HBK.out.2 k 0 (by rw [over_get _ _ _ HPR.out (by rw [List.length_replicate]; omega)]; exact rep_at _ _ (by omega))
        have HG := hidH (over_set _ _ k _ HPR.out (padL_get zs0 M k hM2 (by omega)))
        clear hz hc0
        have hkM : k < M := by omega
        go_wp2_with fail
        go_region
        go_wp2_with fail
        go_roundw
        case rel => exact ⟨k + 1, by omega, by go_num, by rw [← HG.out, HZD.out]; exact (HBK.out.set k z).drewN 1, (HBq.out.setCell (Nat.le_refl _) _).drew⟩
        case measure => simp [intOf]; omega
      · obtain rfl : k = zs0.length := by omega
        have HP0 := hidH (show Blk wr (w2).heap.size (padL zs0 M) by have h := HBK.out; rw [HPD.out] at h; exact h)
        have HBf := HBq
        clear HBK HBq
        go_wp2_with fail
        go_loopw [8] (fun i wr => ∃ k : Nat, k ≤ zs1.length ∧ i = .int .i64 k ∧ Blk wr (w2).heap.size (over (addL zs0 zs1 M) (padL zs0 M) k) ∧ Below (w2).heap.size w2 wr) (fun i _ => zs1.length - (intOf i).toNat)
        case atStart => exact ⟨0, Nat.zero_le _, rfl, by rw [over_zero]; exact HP0.out, HBf.out⟩
        case round =>
          clear HP0 HBf
          obtain ⟨k, hk, rfl, hblk, hb⟩ := hrel
          have HBK := hidH hblk
          have HBq := hidH hb
          clear hblk hb
          by_cases hlt : k < zs1.length
          · obtain ⟨z, hz⟩ := get_lt zs1 k hlt
            have HZD := hidH (getD_at _ _ _ hz)
            have ⟨g1, g2⟩ := HSY.out.2 z (List.mem_of_getElem? hz)
            have ⟨g3, g4⟩ := getD_bd HS.out k
            have hc0 := HC1L.out k z hz
            have hcw : wr.cell? ⟨b1, off1 + k, none⟩ = some (.int .i64 z) := by rw [(HB0q.out.trans (HBq.out.mono HB0q.out.size)).cell (p := ⟨b1, off1 + k, none⟩) (cell_blk _ _ _ hc0)]; exact hc0
            obtain ⟨ho, hf⟩ := HBK.out.2 k (zs0.getD k 0) (by rw [over_get _ _ _ HAP.out (by rw [HPL.out]; omega)]; exact padL_get _ _ _ hM2 (by omega))
            have HG := hidH (over_set _ _ k _ HAP.out (addL_get zs0 zs1 M k (by omega)))
            generalize hu : zs0.getD k 0 = u at *
            have HU := hidH hu
            clear hu hz hc0
            have hkM : k < M := by omega
            go_wp2_with fail
            go_region
            go_wp2_with fail
            go_roundw
            case rel => exact ⟨k + 1, by omega, by go_num, by rw [← HG.out, HZD.out]; exact (HBK.out.set k _).drewN 1, (HBq.out.setCell (Nat.le_refl _) _).drew⟩
            case measure => simp [intOf]; omega
          · obtain rfl : k = zs1.length := by omega
            have h := HBK.out
            rw [HDN.out] at h
            have HRW := hidH (h.row (lo := (w2).heap.size) (cap := M) (n := M) (Nat.le_refl _) h.1 (by rw [HAL.out]; exact Nat.le_refl _) (by unfold maxLen; omega) HAL.out.symm)
            clear h
            cases hk : polyOk (addL zs0 zs1 M)
            · have HE := hidH (show resL (addL zs0 zs1 M) = [] by rw [resL, hk]; rfl)
              have HK := hidH hk
              clear hk
              go_wp2_with fail
              refine (sPolyValid_gives _ _ _ _ _ HRW.out.lies).mono ?_; rintro e w2 ⟨rfl, hb⟩
              rw [HK.out]
              have HBr := hidH (HBq.out.trans (hb.mono HBq.out.size))
              clear hb
              go_wp2_with fail
              go_ret2
              rw [HE.out, HK.out]
              have hsz := HB2.out.size
              exact ⟨_, rfl, Row.nil _ _ _ _ _ (Nat.zero_le _) (fun _ => rfl), HB2.out.trans ((HBr.out.trans (((Below.refl _ _).alloc (Nat.le_refl _) _).mono HBr.out.size)).mono hsz)⟩
            · have HE := hidH (show resL (addL zs0 zs1 M) = addL zs0 zs1 M by rw [resL, hk]; rfl)
              have HK := hidH hk
              clear hk
              go_wp2_with fail
              refine (sPolyValid_gives _ _ _ _ _ HRW.out.lies).mono ?_; rintro e w2 ⟨rfl, hb⟩
              rw [HK.out]
              have HBr := hidH (HBq.out.trans (hb.mono HBq.out.size))
              have HRr := hidH (HRW.out.below hb)
              have hszr := hb.size
              clear hb
              go_wp2_with fail
              go_ret2
              rw [HE.out, HK.out]
              have hsz := HB2.out.size
              exact ⟨_, rfl, HRr.out.mono hsz hszr, HB2.out.trans (HBr.out.mono hsz)⟩
  · rw [show ((M : Nat) : Int) = (zs1.length : Int) by omega] at hmk
    clear hce
    go_wp2_with fail
    go_loopw [7] (fun i wr => ∃ k : Nat, k ≤ zs0.length ∧ i = .int .i64 k ∧ Blk wr (w2).heap.size (over (padL zs0 M) (List.replicate M 0) k) ∧ Below (w2).heap.size w2 wr) (fun i _ => zs0.length - (intOf i).toNat)
    case atStart => exact ⟨0, Nat.zero_le _, rfl, by rw [over_zero]; exact HM.out, (Below.refl _ _).alloc (Nat.le_refl _) _⟩
    case round =>
      obtain ⟨k, hk, rfl, hblk, hb⟩ := hrel
      have HBK := hidH hblk
      have HBq := hidH hb
      clear hblk hb
      by_cases hlt : k < zs0.length
      · obtain ⟨z, hz⟩ := get_lt zs0 k hlt
        have HZD := hidH (getD_at _ _ _ hz)
        have ⟨g1, g2⟩ := HS.out.2 z (List.mem_of_getElem? hz)
        have hc0 := HC0L.out k z hz
        have hcw : wr.cell? ⟨b0, off0 + k, none⟩ = some (.int .i64 z) := by rw [(HB0q.out.trans (HBq.out.mono HB0q.out.size)).cell (p := ⟨b0, off0 + k, none⟩) (cell_blk _ _ _ hc0)]; exact hc0
        obtain ⟨ho, hf⟩ := HBK.out.2 k 0 (by rw [over_get _ _ _ HPR.out (by rw [List.length_replicate]; omega)]; exact rep_at _ _ (by omega))
        have HG := hidH (over_set _ _ k _ HPR.out (padL_get zs0 M k hM2 (by omega)))
        clear hz hc0
        have hkM : k < M := by omega
        go_wp2_with fail
        go_region
        go_wp2_with fail
        go_roundw
        case rel => exact ⟨k + 1, by omega, by go_num, by rw [← HG.out, HZD.out]; exact (HBK.out.set k z).drewN 1, (HBq.out.setCell (Nat.le_refl _) _).drew⟩
        case measure => simp [intOf]; omega
      · obtain rfl : k = zs0.length := by omega
        have HP0 := hidH (show Blk wr (w2).heap.size (padL zs0 M) by have h := HBK.out; rw [HPD.out] at h; exact h)
        have HBf := HBq
        clear HBK HBq
        go_wp2_with fail
        go_loopw [8] (fun i wr => ∃ k : Nat, k ≤ zs1.length ∧ i = .int .i64 k ∧ Blk wr (w2).heap.size (over (addL zs0 zs1 M) (padL zs0 M) k) ∧ Below (w2).heap.size w2 wr) (fun i _ => zs1.length - (intOf i).toNat)
        case atStart => exact ⟨0, Nat.zero_le _, rfl, by rw [over_zero]; exact HP0.out, HBf.out⟩
        case round =>
          clear HP0 HBf
          obtain ⟨k, hk, rfl, hblk, hb⟩ := hrel
          have HBK := hidH hblk
          have HBq := hidH hb
          clear hblk hb
          by_cases hlt : k < zs1.length
          · obtain ⟨z, hz⟩ := get_lt zs1 k hlt
            have HZD := hidH (getD_at _ _ _ hz)
            have ⟨g1, g2⟩ := HSY.out.2 z (List.mem_of_getElem? hz)
            have ⟨g3, g4⟩ := getD_bd HS.out k
            have hc0 := HC1L.out k z hz
            have hcw : wr.cell? ⟨b1, off1 + k, none⟩ = some (.int .i64 z) := by rw [(HB0q.out.trans (HBq.out.mono HB0q.out.size)).cell (p := ⟨b1, off1 + k, none⟩) (cell_blk _ _ _ hc0)]; exact hc0
            obtain ⟨ho, hf⟩ := HBK.out.2 k (zs0.getD k 0) (by rw [over_get _ _ _ HAP.out (by rw [HPL.out]; omega)]; exact padL_get _ _ _ hM2 (by omega))
            have HG := hidH (over_set _ _ k _ HAP.out (addL_get zs0 zs1 M k (by omega)))
            generalize hu : zs0.getD k 0 = u at *
            have HU := hidH hu
            clear hu hz hc0
            have hkM : k < M := by omega
            go_wp2_with fail
            go_region
            go_wp2_with fail
            go_roundw
            case rel => exact ⟨k + 1, by omega, by go_num, by rw [← HG.out, HZD.out]; exact (HBK.out.set k _).drewN 1, (HBq.out.setCell (Nat.le_refl _) _).drew⟩
            case measure => simp [intOf]; omega
          · obtain rfl : k = zs1.length := by omega
            have h := HBK.out
            rw [HDN.out] at h
            have HRW := hidH (h.row (lo := (w2).heap.size) (cap := M) (n := M) (Nat.le_refl _) h.1 (by rw [HAL.out]; exact Nat.le_refl _) (by unfold maxLen; omega) HAL.out.symm)
            clear h
            cases hk : polyOk (addL zs0 zs1 M)
            · have HE := hidH (show resL (addL zs0 zs1 M) = [] by rw [resL, hk]; rfl)
              have HK := hidH hk
              clear hk
              go_wp2_with fail
              refine (sPolyValid_gives _ _ _ _ _ HRW.out.lies).mono ?_; rintro e w2 ⟨rfl, hb⟩
              rw [HK.out]
              have HBr := hidH (HBq.out.trans (hb.mono HBq.out.size))
              clear hb
              go_wp2_with fail
              go_ret2
              rw [HE.out, HK.out]
              have hsz := HB2.out.size
              exact ⟨_, rfl, Row.nil _ _ _ _ _ (Nat.zero_le _) (fun _ => rfl), HB2.out.trans ((HBr.out.trans (((Below.refl _ _).alloc (Nat.le_refl _) _).mono HBr.out.size)).mono hsz)⟩
            · have HE := hidH (show resL (addL zs0 zs1 M) = addL zs0 zs1 M by rw [resL, hk]; rfl)
              have HK := hidH hk
              clear hk
              go_wp2_with fail
              refine (sPolyValid_gives _ _ _ _ _ HRW.out.lies).mono ?_; rintro e w2 ⟨rfl, hb⟩
              rw [HK.out]
              have HBr := hidH (HBq.out.trans (hb.mono HBq.out.size))
              have HRr := hidH (HRW.out.below hb)
              have hszr := hb.size
              clear hb
              go_wp2_with fail
              go_ret2
              rw [HE.out, HK.out]
              have hsz := HB2.out.size
              exact ⟨_, rfl, HRr.out.mono hsz hszr, HB2.out.trans (HBr.out.mono hsz)⟩
theorem sAdd_any (v0 : Value) (zs0 : List Int) (v1 : Value) (zs1 : List Int) (w : World) (lo0 hi0 : Nat) (lo1 hi1 : Nat) (hv0 : Lies w lo0 hi0 v0 zs0) (hv1 : Lies w lo1 hi1 v1 zs1) : Calls Try.prog 34 #[v0, v1] w (NewRowB (addA zs0 zs1) (addB zs0 zs1) w) := by
  unfold addA addB
  cases h : (polyOk zs0 && polyOk zs1)
  · exact sAdd_no v0 zs0 v1 zs1 w lo0 hi0 lo1 hi1 hv0 hv1 h
  · have h' := h
    try simp only [Bool.and_eq_true] at h'
    exact sAdd_yes v0 zs0 v1 zs1 w lo0 hi0 lo1 hi1 hv0 hv1 h'.1 h'.2
end Go.Proofs.Ytnbggjdmpgjkgaa
