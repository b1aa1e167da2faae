/-
  Values of polynomials one after the other: the program and the model, at every argument. No conditions but that slices fit in memory.
-/
import Derived.Test.YtgnoclnenhmakaaPolyFa
namespace Go.Proofs.Ytgnoclnenhmakaa
set_option maxRecDepth 4000
open Go.RowKit
/-- What ValuesOf answers. -/
def cntOk (c : Int) : Bool := decide (0 ≤ c ∧ c ≤ 60)
def lastOk (n c : Int) : Bool := decide (n + c ≤ 201)
def valsOk (n c : Int) : Bool := decide (0 ≤ c ∧ c ≤ 60 ∧ n + c ≤ 201)
theorem valsOk_eq (n c : Int) : valsOk n c = (cntOk c && lastOk n c) := by
  rw [Bool.eq_iff_iff]; simp [valsOk, cntOk, lastOk, and_assoc]
def valuesA (zs : List Int) (n c : Int) : List Int := if polyOk zs && inB 200 n && valsOk n c then vals zs n c.toNat else []
def valuesB (zs : List Int) (n c : Int) : Bool := polyOk zs && inB 200 n && valsOk n c
theorem valuesA_len (zs : List Int) (n c : Int) : (valuesA zs n c).length ≤ 1048576 := by
  unfold valuesA
  split
  · rename_i h
    simp only [Bool.and_eq_true] at h
    have := of_decide_eq_true h.2
    rw [vals_length]; omega
  · simp
theorem inB_2e (n : Int) (h : inB 200 n = true) : -200 ≤ n ∧ n ≤ 200 := of_decide_eq_true h
theorem values_no (v0 : Value) (zs0 : List Int) (n1 : Int) (n2 : Int) (w : World) (lo0 hi0 : Nat) (hv0 : Lies w lo0 hi0 v0 zs0) (h : (polyOk zs0 && inB 200 n1 && valsOk n1 n2) = false) : Calls Try.prog 76 #[v0, .int .i64 n1, .int .i64 n2] w (NewRowB [] false w) := by
  have HV0_0 := hidH hv0
  clear hv0
  have HB0 := hidH (Below.refl w.heap.size w)
  cases hc0 : polyOk zs0
  · have HC0 := hidH hc0
    clear h hc0
    go_enter Try.func76, Try.ntmps76
    go_wp2_with fail
    refine (polyValid_any v0 zs0 _ _ _ HV0_0.out).mono ?_; rintro e w1 ⟨rfl, hb⟩
    have HV0_1 := hidH (HV0_0.out.below hb)
    clear HV0_0
    have HB1 := hidH (HB0.out.trans (hb.mono HB0.out.size))
    clear hb HB0
    rw [HC0.out]
    go_wp2_with fail
    go_ret2
    exact ⟨_, rfl, Row.nil _ _ _ _ _ (Nat.zero_le _) (fun _ => rfl), HB1.out⟩
  · rw [hc0, Bool.true_and] at h
    have HC0 := hidH hc0
    clear hc0
    cases hc1 : inB 200 n1
    · have HC1 := hidH hc1
      clear h hc1
      go_enter Try.func76, Try.ntmps76
      go_wp2_with fail
      refine (polyValid_any v0 zs0 _ _ _ HV0_0.out).mono ?_; rintro e w1 ⟨rfl, hb⟩
      have HV0_1 := hidH (HV0_0.out.below hb)
      clear HV0_0
      have HB1 := hidH (HB0.out.trans (hb.mono HB0.out.size))
      clear hb HB0
      rw [HC0.out]
      go_wp2_with fail
      refine (within_any n1 200 (by omega) (by omega) _).mono ?_; rintro e w_ ⟨rfl, rfl⟩
      rw [HC1.out]
      go_wp2_with fail
      go_ret2
      exact ⟨_, rfl, Row.nil _ _ _ _ _ (Nat.zero_le _) (fun _ => rfl), HB1.out⟩
    · rw [hc1, Bool.true_and] at h
      have HC1 := hidH hc1
      clear hc1
      · have HC2 := hidH h
        have hcc := of_decide_eq_false HC2.out
        clear h
        rcases (show (n2 < 0) ∨ (0 ≤ n2 ∧ 60 < n2) ∨ (0 ≤ n2 ∧ n2 ≤ 60 ∧ 201 < n1 + n2) by omega) with hcf | ⟨hct0, hcf⟩ | ⟨hct0, hct1, hcf⟩
        · clear hcc
          have ⟨hq1, hq2⟩ := inB_2e _ HC1.out
          go_enter Try.func76, Try.ntmps76
          go_wp2_with fail
          refine (polyValid_any v0 zs0 _ _ _ HV0_0.out).mono ?_; rintro e w1 ⟨rfl, hb⟩
          have HV0_1 := hidH (HV0_0.out.below hb)
          clear HV0_0
          have HB1 := hidH (HB0.out.trans (hb.mono HB0.out.size))
          clear hb HB0
          rw [HC0.out]
          go_wp2_with fail
          refine (within_any n1 200 (by omega) (by omega) _).mono ?_; rintro e w_ ⟨rfl, rfl⟩
          rw [HC1.out]
          go_wp2_with fail
          go_ret2
          exact ⟨_, rfl, Row.nil _ _ _ _ _ (Nat.zero_le _) (fun _ => rfl), HB1.out⟩
        · clear hcc
          have ⟨hq1, hq2⟩ := inB_2e _ HC1.out
          go_enter Try.func76, Try.ntmps76
          go_wp2_with fail
          refine (polyValid_any v0 zs0 _ _ _ HV0_0.out).mono ?_; rintro e w1 ⟨rfl, hb⟩
          have HV0_1 := hidH (HV0_0.out.below hb)
          clear HV0_0
          have HB1 := hidH (HB0.out.trans (hb.mono HB0.out.size))
          clear hb HB0
          rw [HC0.out]
          go_wp2_with fail
          refine (within_any n1 200 (by omega) (by omega) _).mono ?_; rintro e w_ ⟨rfl, rfl⟩
          rw [HC1.out]
          go_wp2_with fail
          go_ret2
          exact ⟨_, rfl, Row.nil _ _ _ _ _ (Nat.zero_le _) (fun _ => rfl), HB1.out⟩
        · clear hcc
          have ⟨hq1, hq2⟩ := inB_2e _ HC1.out
          go_enter Try.func76, Try.ntmps76
          go_wp2_with fail
          refine (polyValid_any v0 zs0 _ _ _ HV0_0.out).mono ?_; rintro e w1 ⟨rfl, hb⟩
          have HV0_1 := hidH (HV0_0.out.below hb)
          clear HV0_0
          have HB1 := hidH (HB0.out.trans (hb.mono HB0.out.size))
          clear hb HB0
          rw [HC0.out]
          go_wp2_with fail
          refine (within_any n1 200 (by omega) (by omega) _).mono ?_; rintro e w_ ⟨rfl, rfl⟩
          rw [HC1.out]
          go_wp2_with fail
          go_ret2
          exact ⟨_, rfl, Row.nil _ _ _ _ _ (Nat.zero_le _) (fun _ => rfl), HB1.out⟩
set_option maxHeartbeats 800000 in
theorem values_yes (v0 : Value) (zs0 : List Int) (n1 : Int) (n2 : Int) (w : World) (lo0 hi0 : Nat) (hv0 : Lies w lo0 hi0 v0 zs0) (hc0 : (polyOk zs0) = true) (hc1 : (inB 200 n1) = true) (hc2 : (valsOk n1 n2) = true) : Calls Try.prog 76 #[v0, .int .i64 n1, .int .i64 n2] w (NewRowB (vals zs0 n1 n2.toNat) true w) := by
  have HV0_0 := hidH hv0
  clear hv0
  have HB0 := hidH (Below.refl w.heap.size w)
  have HC0 := hidH hc0
  have HC1 := hidH hc1
  have HC2 := hidH hc2
  have hct := of_decide_eq_true HC2.out
  have ⟨h1, hs⟩ := polyOk_small _ HC0.out
  have h7 := hs.1
  have HS := hidH hs
  clear hs
  have ⟨ha, hb⟩ := inB_2e _ HC1.out
  obtain ⟨hc1, hc2x, hc3⟩ := hct
  obtain ⟨c, rfl⟩ := Int.eq_ofNat_of_zero_le hc1
  have hcn : ((c : Int)).toNat = c := Int.toNat_natCast c
  have HCN := hidH hcn
  clear hcn hc1
  clear hc0 hc1 hc2
  go_enter Try.func76, Try.ntmps76
  go_wp2_with fail
  refine (polyValid_any v0 zs0 _ _ _ HV0_0.out).mono ?_; rintro e w1 ⟨rfl, hb⟩
  have HV0_1 := hidH (HV0_0.out.below hb)
  clear HV0_0
  have HB1 := hidH (HB0.out.trans (hb.mono HB0.out.size))
  clear hb HB0
  rw [HC0.out]
  go_wp2_with fail
  refine (within_any n1 200 (by omega) (by omega) _).mono ?_; rintro e w_ ⟨rfl, rfl⟩
  rw [HC1.out]
  go_wp2_with fail
  refine (diffsAt_any v0 zs0 n1 _ _ _ HV0_1.out (by omega) HS.out (by omega) (by omega)).mono ?_; rintro e wa ⟨va, rfl, hr, hb0⟩
  have hlz : (shiftL zs0 n1 zs0.length).length = zs0.length := shiftL_length _ _ _
  obtain ⟨br, capr, rfl, hlr, hcr, hbr1, hbr2, hblkr⟩ := hr.blk (by rw [hlz]; omega)
  rw [hlz] at hlr ⊢
  have HBR := hidH hblkr
  have HBa := hidH (HB1.out.trans (hb0.mono HB1.out.size))
  have hsz := HB1.out.size
  have hsza := hb0.size
  clear hr hb0 hblkr hlz
  have HM := hidH (Blk.made wa 3 c)
  have HLL := hidH (vals_length zs0 n1 c)
  have hmk := run_make_row' (P := Try.prog) 28 3 (.int .i64 0) 8 Try.underlying28 infoInt rfl .i64 .i64 c (by omega) (by omega) wa
  unfold maxLen at hcr
  go_wp2_with fail
  go_loopw [40] (fun i wr => ∃ k : Nat, k ≤ c ∧ i = .int .i64 k ∧ Blk wr br (shiftL zs0 (n1 + k) zs0.length) ∧ Blk wr wa.heap.size (fill (vals zs0 n1 c) k) ∧ Below w.heap.size w wr) (fun i _ => c - (intOf i).toNat)
  case atStart => exact ⟨0, Nat.zero_le _, rfl, by rw [show n1 + ((0 : Nat) : Int) = n1 by omega]; exact HBR.out.below ((Below.refl _ _).alloc (Nat.le_refl _) _), by have := HM.out; rw [fill_zero, HLL.out]; exact this, HBa.out.alloc HBa.out.size _⟩
  case round =>
    obtain ⟨k, hk, rfl, hrow, hblk, hb⟩ := hrel
    have HRW := hidH hrow
    have HBK := hidH hblk
    have HBq := hidH hb
    clear hrow hblk hb
    by_cases hlt : k < c
    · obtain ⟨ho, hf⟩ := HBK.out.2 k 0 (fill_at _ _ (by rw [HLL.out]; exact hlt))
      obtain ⟨hcz, hfz⟩ := HRW.out.2 0 (evP zs0 (n1 + k)) (by rw [shiftL_get _ _ _ _ (by omega), List.drop_zero])
      have HG := hidH (fill_set _ k _ (vals_get zs0 n1 c k hlt))
      have hne : br ≠ wa.heap.size := by omega
      have hpz : 0 < zs0.length := by omega
      have HST := hidH (HBK.out.set k (evP zs0 (n1 + k)))
      have HRS := hidH (HRW.out.apart (Apart.of_onto (lo := wa.heap.size) (hi := wa.heap.size + 1) (Onto.setCell wa.heap.size k wr (.int .i64 (evP zs0 (n1 + k)))) (Nat.le_refl _) (Nat.lt_succ_self _)) (by omega))
      have HBS := hidH (HBq.out.setCell (p := ⟨wa.heap.size, k, none⟩) (by show w.heap.size ≤ wa.heap.size; omega) (.int .i64 (evP zs0 (n1 + k))))
      go_wp2_with fail
      refine (addUp_any br capr zs0 (n1 + k) _ HRS.out (by omega) HS.out (by omega) (by omega) hlr (by omega)).mono ?_; rintro e w5 ⟨rfl, hbu, hou⟩
      have HBU := hidH hbu
      have HSU := hidH (HST.out.apart (Apart.of_onto (lo := br) (hi := br + 1) hou (Nat.le_refl _) (Nat.lt_succ_self _)) (by omega))
      have HBU2 := hidH (HBS.out.trans (hou.below (by omega) HBS.out.size))
      clear hbu hou
      go_wp2_with fail
      go_roundw
      case rel => exact ⟨k + 1, by omega, by go_num, by rw [show n1 + ((k + 1 : Nat) : Int) = n1 + k + 1 by omega]; exact HBU.out, by rw [← HG.out]; exact HSU.out, HBU2.out⟩
      case measure => simp [intOf]; omega
    · obtain rfl : k = c := by omega
      go_wp2_with fail
      go_ret2
      rw [HCN.out]
      have h := HBK.out
      have e := fill_all (vals zs0 n1 k)
      rw [HLL.out] at e
      rw [e] at h
      exact ⟨_, rfl, h.row (by omega) h.1 (by rw [HLL.out]; exact Nat.le_refl _) (by unfold maxLen; omega) HLL.out.symm, HBq.out⟩
theorem values_any (v0 : Value) (zs0 : List Int) (n1 : Int) (n2 : Int) (w : World) (lo0 hi0 : Nat) (hv0 : Lies w lo0 hi0 v0 zs0) : Calls Try.prog 76 #[v0, .int .i64 n1, .int .i64 n2] w (NewRowB (valuesA zs0 n1 n2) (valuesB zs0 n1 n2) w) := by
  unfold valuesA valuesB
  cases h : (polyOk zs0 && inB 200 n1 && valsOk n1 n2)
  · exact values_no v0 zs0 n1 n2 w lo0 hi0 hv0 h
  · have h' := h
    try simp only [Bool.and_eq_true] at h'
    exact values_yes v0 zs0 n1 n2 w lo0 hi0 hv0 h'.1.1 h'.1.2 h'.2
end Go.Proofs.Ytgnoclnenhmakaa
