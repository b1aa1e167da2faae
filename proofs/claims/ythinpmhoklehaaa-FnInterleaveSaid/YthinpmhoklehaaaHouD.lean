/-
  Interleave: the model, at every argument. No conditions but that slices fit in memory.
-/
import Derived.Test.YthinpmhoklehaaaHouC
import Derived.Test.YthinpmhoklehaaaErrD
namespace Go.Proofs.Ythinpmhoklehaaa
set_option maxRecDepth 4000
open Go.RowKit
theorem sIlv_no (v0 : Value) (zs0 : List Int) (v1 : Value) (zs1 : List Int) (w : World) (lo0 hi0 lo1 hi1 : Nat) (hv0 : Lies w lo0 hi0 v0 zs0) (hv1 : Lies w lo1 hi1 v1 zs1) (hs0 : zs0.length ≤ 1048576) (hs1 : zs1.length ≤ 1048576) (h : ilOk zs0 zs1 = false) : Calls Try.prog 10 #[v0, v1] w (NewRowB [] false w) := by
  obtain ⟨a0, cap0, rfl, hlc0, hcm0, hnil0, hcell0⟩ := hv0
  obtain ⟨a1, cap1, rfl, hlc1, hcm1, hnil1, hcell1⟩ := hv1
  unfold maxLen at hcm0 hcm1
  clear hcell0 hcell1 hnil0 hnil1
  have h := of_decide_eq_false h
  generalize zs0.length = m at *
  generalize zs1.length = n at *
  rcases (show (m ≠ n ∧ m ≠ n + 1) ∨ (m = n ∧ 60 < m + n) ∨ (m = n + 1 ∧ 60 < m + n) by omega) with ⟨h1, h2⟩ | ⟨rfl, h2⟩ | ⟨rfl, h2⟩
  · have b1 : ((m : Int) != (n : Int)) = true := bne_iff_ne.2 (by omega)
    have b2 : ((m : Int) != (n : Int) + 1) = true := bne_iff_ne.2 (by omega)
    clear h
    go_enter Try.func10, Try.ntmps10
    go_wp2_with fail
    go_ret2
    exact ⟨_, rfl, Row.nil _ _ _ _ _ (Nat.zero_le _) (fun h => by cases h), (Below.refl _ _).alloc (Nat.le_refl _) _⟩
  · clear h
    go_enter Try.func10, Try.ntmps10
    go_wp2_with fail
    go_ret2
    exact ⟨_, rfl, Row.nil _ _ _ _ _ (Nat.zero_le _) (fun h => by cases h), (Below.refl _ _).alloc (Nat.le_refl _) _⟩
  · have b1 : (((n + 1 : Nat) : Int) != (n : Int)) = true := bne_iff_ne.2 (by omega)
    have b2 : (((n + 1 : Nat) : Int) != (n : Int) + 1) = false := bne_eq_false_iff_eq.2 (by omega)
    generalize hq : n + 1 = q at *
    have hqi : (n : Int) + 1 = (q : Int) := by omega
    clear h
    go_enter Try.func10, Try.ntmps10
    go_wp2_with fail
    go_ret2
    exact ⟨_, rfl, Row.nil _ _ _ _ _ (Nat.zero_le _) (fun h => by cases h), (Below.refl _ _).alloc (Nat.le_refl _) _⟩
set_option maxHeartbeats 1600000 in
theorem sIlv_yes (v0 : Value) (zs0 : List Int) (v1 : Value) (zs1 : List Int) (w : World) (lo0 hi0 lo1 hi1 : Nat) (hv0 : Lies w lo0 hi0 v0 zs0) (hv1 : Lies w lo1 hi1 v1 zs1) (hs0 : zs0.length ≤ 1048576) (hs1 : zs1.length ≤ 1048576) (h : ilOk zs0 zs1 = true) : Calls Try.prog 10 #[v0, v1] w (NewRowB (ilL zs0 zs1) true w) := by
  obtain ⟨a0, cap0, rfl, hlc0, hcm0, hnil0, hcell0⟩ := hv0
  obtain ⟨a1, cap1, rfl, hlc1, hcm1, hnil1, hcell1⟩ := hv1
  unfold maxLen at hcm0 hcm1
  have HC0 := hidH hcell0
  have HC1 := hidH hcell1
  clear hcell0 hcell1 hnil0 hnil1
  have ⟨hd, h60⟩ := of_decide_eq_true h
  clear h
  obtain ⟨N, hN⟩ : ∃ N, N = zs0.length + zs1.length := ⟨_, rfl⟩
  have HN := hidH hN
  have HLL := hidH (show (ilL zs0 zs1).length = N by rw [ilL_length, hN])
  have hNi : (zs0.length : Int) + (zs1.length : Int) = (N : Int) := by omega
  have hN1 : 2 * zs0.length ≤ N + 1 := by omega
  have hN2 : N ≤ 2 * zs0.length := by omega
  have hN3 : 2 * zs1.length ≤ N := by omega
  have hN4 : N ≤ 2 * zs1.length + 1 := by omega
  have hN5 : N ≤ 60 := by omega
  have hN6 : zs0.length ≤ 60 := by omega
  have hN7 : zs1.length ≤ 60 := by omega
  have HE := hidH (fun k z (hz : zs0[k]? = some z) (hk : 2 * k < N) => ilL_even zs0 zs1 k z hz (by omega))
  have HO2 := hidH (fun k z (hz : zs1[k]? = some z) (hk : 2 * k + 1 < N) => ilL_odd zs0 zs1 k z hz (by omega))
  clear hN h60
  have hg : ((zs0.length : Int) != (zs1.length : Int)) = false ∨ ((zs0.length : Int) != (zs1.length : Int)) = true ∧ ((zs0.length : Int) != (zs1.length : Int) + 1) = false := by
    rcases hd with e | e
    · exact .inl (bne_eq_false_iff_eq.2 (by omega))
    · exact .inr ⟨bne_iff_ne.2 (by omega), bne_eq_false_iff_eq.2 (by omega)⟩
  obtain ⟨i0, hi0, hz0, hz1, hz2⟩ := info_parts infoInt
  have HO := hidH (World.ownsRow_made (base := w.heap.size) (e := 3) (size := 1) w #[] 0 (Nat.le_refl _) (Nat.zero_le _) rfl)
  clear hd
  generalize ilL zs0 zs1 = R at *
  generalize hm0 : zs0.length = m0 at *
  generalize hm1 : zs1.length = m1 at *
  have HM0 := hidH hm0
  have HM1 := hidH hm1
  clear hm0 hm1
  have hpre : ∀ {P : Prop}, (((m0 : Int) != (m1 : Int)) = false → P) → (((m0 : Int) != (m1 : Int)) = true → ((m0 : Int) != (m1 : Int) + 1) = false → P) → P := fun f g => hg.elim f (fun e => g e.1 e.2)
  clear hg
  refine hpre (fun b1 => ?_) (fun b1 b2 => ?_)
  · clear hpre
    go_enter Try.func10, Try.ntmps10
    go_wp2_with fail
    go_loopw [6, 7] (fun o i wr => ∃ (k : Nat) (ov : Value), k ≤ m0 ∧ i = .int .i64 k ∧ ov = o ∧ wr.ownsRow w.heap.size 3 1 ov (min (2 * k) N) (ints (R.take (min (2 * k) N))) ∧ Below w.heap.size w wr) (fun _ i _ => m0 - (intOf i).toNat)
    case atStart => exact ⟨0, _, Nat.zero_le _, rfl, rfl, by rw [show min (2 * 0) N = 0 by omega]; exact HO.out, (Below.refl _ _).alloc (Nat.le_refl _) _⟩
    case round =>
      obtain ⟨k, ov, hk, rfl, rfl, hown, hb⟩ := hrel
      have HBq := hidH hb
      by_cases hlt : k < m0
      · have HW := hidH (show wr.ownsRow w.heap.size 3 1 ov (2 * k) (ints (R.take (2 * k))) by rw [show min (2 * k) N = 2 * k by omega] at hown; exact hown)
        clear hown hb
        have hszq := HBq.out.size
        obtain ⟨z, hz⟩ := get_lt zs0 k (by rw [HM0.out]; exact hlt)
        obtain ⟨b, off, rfl, _, hbl, hc⟩ := HC0.out k z hz
        have hcw : wr.cell? ⟨b, off + k, none⟩ = some (.int .i64 z) := by rw [HBq.out.cell (p := ⟨b, off + k, none⟩) (cell_blk _ _ _ hc)]; exact hc
        have HX := hidH (ints_snoc _ (2 * k) _ (HE.out k z hz (by omega)))
        clear hz hc
        go_wp2_with (at_builtin; refine wpList_append_own _ rfl _ _ 23 rfl w.heap.size 3 i0 (.int .i64 0) 1 8 Try.underlying23 hi0 hz0 hz1 hz2 rfl (by decide) _ _ _ rfl (owns_below HW.out ((Below.refl _ _).alloc (Nat.le_refl _) _)) ⟨wr.heap.size, 0, none⟩ 1 1 [.int .i64 (z)] rfl rfl (news_one wr _ _) (one_one _) (by unfold maxLen; omega) (by omega) (by simp; omega) ?_)
        intro v'5 w5 hown5 hgrow _
        have HR5 := hidH hown5
        have HG5 := hidH hgrow
        clear hown5 hgrow
        have HW5 := hidH (show w5.ownsRow w.heap.size 3 1 v'5 (2 * k + 1) (ints (R.take (2 * k + 1))) by have h := HR5.out; rw [HX.out] at h; exact h)
        have HB5 := hidH (show Below w.heap.size w w5 from (HBq.out.alloc hszq _).grown HG5.out (by simp; omega) fun g hg => (HW.out.lt g hg).1)
        have hsz5 := HB5.out.size
        clear HR5 HG5 HW hcw
        by_cases hl1 : k < m1
        · obtain ⟨y, hy⟩ := get_lt zs1 k (by rw [HM1.out]; exact hl1)
          obtain ⟨b2, off2, rfl, _, hbl2, hc2⟩ := HC1.out k y hy
          have hcw2 : w5.cell? ⟨b2, off2 + k, none⟩ = some (.int .i64 y) := by rw [HB5.out.cell (p := ⟨b2, off2 + k, none⟩) (cell_blk _ _ _ hc2)]; exact hc2
          have HX2 := hidH (ints_snoc _ (2 * k + 1) _ (HO2.out k y hy (by omega)))
          clear hy hc2
          go_wp2_with (at_builtin; refine wpList_append_own _ rfl _ _ 23 rfl w.heap.size 3 i0 (.int .i64 0) 1 8 Try.underlying23 hi0 hz0 hz1 hz2 rfl (by decide) _ _ _ rfl (owns_below HW5.out ((Below.refl _ _).alloc (Nat.le_refl _) _)) ⟨w5.heap.size, 0, none⟩ 1 1 [.int .i64 (y)] rfl rfl (news_one w5 _ _) (one_one _) (by unfold maxLen; omega) (by omega) (by simp; omega) ?_)
          intro v'7 w7 hown7 hgrow _
          have HR7 := hidH hown7
          have HG7 := hidH hgrow
          clear hown7 hgrow
          have HW7 := hidH (show w7.ownsRow w.heap.size 3 1 v'7 (2 * k + 2) (ints (R.take (2 * k + 2))) by have h := HR7.out; rw [HX2.out] at h; exact h)
          have HB7 := hidH (show Below w.heap.size w w7 from (HB5.out.alloc hsz5 _).grown HG7.out (by simp; omega) fun g hg => (HW5.out.lt g hg).1)
          clear HR7 HG7
          go_wp2_with fail
          go_roundw
          case rel => exact ⟨k + 1, v'7, by omega, by go_num, rfl, by rw [show min (2 * (k + 1)) N = 2 * k + 2 by omega]; exact HW7.out, HB7.out⟩
          case measure => simp [intOf]; omega
        · go_wp2_with fail
          go_roundw
          case rel => exact ⟨k + 1, v'5, by omega, by go_num, rfl, by rw [show min (2 * (k + 1)) N = 2 * k + 1 by omega]; exact HW5.out, HB5.out⟩
          case measure => simp [intOf]; omega
      · obtain rfl : k = m0 := by omega
        have h := hown
        rw [show min (2 * k) N = N by omega, List.take_of_length_le (by rw [HLL.out]; exact Nat.le_refl _)] at h
        have HRW := hidH (row_of_owns h).1
        clear h hown hb
        go_wp2_with fail
        go_ret2
        exact ⟨_, rfl, HRW.out, HBq.out⟩
  · clear hpre
    go_enter Try.func10, Try.ntmps10
    go_wp2_with fail
    go_loopw [6, 7] (fun o i wr => ∃ (k : Nat) (ov : Value), k ≤ m0 ∧ i = .int .i64 k ∧ ov = o ∧ wr.ownsRow w.heap.size 3 1 ov (min (2 * k) N) (ints (R.take (min (2 * k) N))) ∧ Below w.heap.size w wr) (fun _ i _ => m0 - (intOf i).toNat)
    case atStart => exact ⟨0, _, Nat.zero_le _, rfl, rfl, by rw [show min (2 * 0) N = 0 by omega]; exact HO.out, (Below.refl _ _).alloc (Nat.le_refl _) _⟩
    case round =>
      obtain ⟨k, ov, hk, rfl, rfl, hown, hb⟩ := hrel
      have HBq := hidH hb
      by_cases hlt : k < m0
      · have HW := hidH (show wr.ownsRow w.heap.size 3 1 ov (2 * k) (ints (R.take (2 * k))) by rw [show min (2 * k) N = 2 * k by omega] at hown; exact hown)
        clear hown hb
        have hszq := HBq.out.size
        obtain ⟨z, hz⟩ := get_lt zs0 k (by rw [HM0.out]; exact hlt)
        obtain ⟨b, off, rfl, _, hbl, hc⟩ := HC0.out k z hz
        have hcw : wr.cell? ⟨b, off + k, none⟩ = some (.int .i64 z) := by rw [HBq.out.cell (p := ⟨b, off + k, none⟩) (cell_blk _ _ _ hc)]; exact hc
        have HX := hidH (ints_snoc _ (2 * k) _ (HE.out k z hz (by omega)))
        clear hz hc
        go_wp2_with (at_builtin; refine wpList_append_own _ rfl _ _ 23 rfl w.heap.size 3 i0 (.int .i64 0) 1 8 Try.underlying23 hi0 hz0 hz1 hz2 rfl (by decide) _ _ _ rfl (owns_below HW.out ((Below.refl _ _).alloc (Nat.le_refl _) _)) ⟨wr.heap.size, 0, none⟩ 1 1 [.int .i64 (z)] rfl rfl (news_one wr _ _) (one_one _) (by unfold maxLen; omega) (by omega) (by simp; omega) ?_)
        intro v'5 w5 hown5 hgrow _
        have HR5 := hidH hown5
        have HG5 := hidH hgrow
        clear hown5 hgrow
        have HW5 := hidH (show w5.ownsRow w.heap.size 3 1 v'5 (2 * k + 1) (ints (R.take (2 * k + 1))) by have h := HR5.out; rw [HX.out] at h; exact h)
        have HB5 := hidH (show Below w.heap.size w w5 from (HBq.out.alloc hszq _).grown HG5.out (by simp; omega) fun g hg => (HW.out.lt g hg).1)
        have hsz5 := HB5.out.size
        clear HR5 HG5 HW hcw
        by_cases hl1 : k < m1
        · obtain ⟨y, hy⟩ := get_lt zs1 k (by rw [HM1.out]; exact hl1)
          obtain ⟨b2, off2, rfl, _, hbl2, hc2⟩ := HC1.out k y hy
          have hcw2 : w5.cell? ⟨b2, off2 + k, none⟩ = some (.int .i64 y) := by rw [HB5.out.cell (p := ⟨b2, off2 + k, none⟩) (cell_blk _ _ _ hc2)]; exact hc2
          have HX2 := hidH (ints_snoc _ (2 * k + 1) _ (HO2.out k y hy (by omega)))
          clear hy hc2
          go_wp2_with (at_builtin; refine wpList_append_own _ rfl _ _ 23 rfl w.heap.size 3 i0 (.int .i64 0) 1 8 Try.underlying23 hi0 hz0 hz1 hz2 rfl (by decide) _ _ _ rfl (owns_below HW5.out ((Below.refl _ _).alloc (Nat.le_refl _) _)) ⟨w5.heap.size, 0, none⟩ 1 1 [.int .i64 (y)] rfl rfl (news_one w5 _ _) (one_one _) (by unfold maxLen; omega) (by omega) (by simp; omega) ?_)
          intro v'7 w7 hown7 hgrow _
          have HR7 := hidH hown7
          have HG7 := hidH hgrow
          clear hown7 hgrow
          have HW7 := hidH (show w7.ownsRow w.heap.size 3 1 v'7 (2 * k + 2) (ints (R.take (2 * k + 2))) by have h := HR7.out; rw [HX2.out] at h; exact h)
          have HB7 := hidH (show Below w.heap.size w w7 from (HB5.out.alloc hsz5 _).grown HG7.out (by simp; omega) fun g hg => (HW5.out.lt g hg).1)
          clear HR7 HG7
          go_wp2_with fail
          go_roundw
          case rel => exact ⟨k + 1, v'7, by omega, by go_num, rfl, by rw [show min (2 * (k + 1)) N = 2 * k + 2 by omega]; exact HW7.out, HB7.out⟩
          case measure => simp [intOf]; omega
        · go_wp2_with fail
          go_roundw
          case rel => exact ⟨k + 1, v'5, by omega, by go_num, rfl, by rw [show min (2 * (k + 1)) N = 2 * k + 1 by omega]; exact HW5.out, HB5.out⟩
          case measure => simp [intOf]; omega
      · obtain rfl : k = m0 := by omega
        have h := hown
        rw [show min (2 * k) N = N by omega, List.take_of_length_le (by rw [HLL.out]; exact Nat.le_refl _)] at h
        have HRW := hidH (row_of_owns h).1
        clear h hown hb
        go_wp2_with fail
        go_ret2
        exact ⟨_, rfl, HRW.out, HBq.out⟩
theorem sIlv_any (v0 : Value) (zs0 : List Int) (v1 : Value) (zs1 : List Int) (w : World) (lo0 hi0 lo1 hi1 : Nat) (hv0 : Lies w lo0 hi0 v0 zs0) (hv1 : Lies w lo1 hi1 v1 zs1) (hs0 : zs0.length ≤ 1048576) (hs1 : zs1.length ≤ 1048576) : Calls Try.prog 10 #[v0, v1] w (NewRowB (ilA zs0 zs1) (ilOk zs0 zs1) w) := by
  unfold ilA
  cases h : ilOk zs0 zs1
  · exact sIlv_no v0 zs0 v1 zs1 w lo0 hi0 lo1 hi1 hv0 hv1 hs0 hs1 h
  · exact sIlv_yes v0 zs0 v1 zs1 w lo0 hi0 lo1 hi1 hv0 hv1 hs0 hs1 h
end Go.Proofs.Ythinpmhoklehaaa
