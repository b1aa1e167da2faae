/-
  Interleave: the program, at every argument. No conditions but that slices fit in memory.
-/
import Derived.Test.YthinpmhoklehaaaRndA
import Derived.Test.YthinpmhoklehaaaErrC
namespace Go.Proofs.Ythinpmhoklehaaa
set_option maxRecDepth 4000
open Go.RowKit
/-- The number that stands at a place when two lists take turns. -/
def ilF (a b : List Int) (j : Nat) : Int := if j % 2 = 0 then a.getD (j / 2) 0 else b.getD (j / 2) 0
def ilL (a b : List Int) : List Int := (List.range (a.length + b.length)).map (ilF a b)
def ilOk (a b : List Int) : Bool := decide ((a.length = b.length ∨ a.length = b.length + 1) ∧ a.length + b.length ≤ 60)
/-- What Interleave answers. -/
def ilA (a b : List Int) : List Int := if ilOk a b then ilL a b else []
theorem ilL_length (a b : List Int) : (ilL a b).length = a.length + b.length := by simp [ilL]
theorem ilA_len (a b : List Int) : (ilA a b).length ≤ 1048576 := by
  unfold ilA
  split
  · rename_i h
    have := of_decide_eq_true h
    rw [ilL_length]; omega
  · simp
theorem ilL_even (a b : List Int) (k : Nat) (z : Int) (h : a[k]? = some z) (hk : 2 * k < a.length + b.length) : (ilL a b)[2 * k]? = some z := by
  have e : ilF a b (2 * k) = z := by
    unfold ilF
    rw [if_pos (by omega), show 2 * k / 2 = k by omega, List.getD_eq_getElem?_getD, h]; rfl
  simp [ilL, hk, e]
theorem ilL_odd (a b : List Int) (k : Nat) (z : Int) (h : b[k]? = some z) (hk : 2 * k + 1 < a.length + b.length) : (ilL a b)[2 * k + 1]? = some z := by
  have e : ilF a b (2 * k + 1) = z := by
    unfold ilF
    rw [if_neg (by omega), show (2 * k + 1) / 2 = k by omega, List.getD_eq_getElem?_getD, h]; rfl
  simp [ilL, hk, e]
theorem map_set (n : Nat) (f g : Nat → Int) (j : Nat) (x : Int) (h : ∀ i, i ≠ j → f i = g i) (hx : g j = x) : ((List.range n).map f).set j x = (List.range n).map g := by
  apply List.ext_getElem (by simp)
  intro i h1 h2
  rw [List.getElem_set]
  by_cases e : j = i
  · subst e
    rw [if_pos rfl]; simp [hx]
  · rw [if_neg e]; simp [h i (fun c => e c.symm)]
/-- The first list laid out, up to k. -/
def il1 (a : List Int) (n k : Nat) : List Int := (List.range n).map fun j => if j % 2 = 0 ∧ j / 2 < k then a.getD (j / 2) 0 else 0
/-- Then the second one, up to k. -/
def il2 (a b : List Int) (n k : Nat) : List Int := (List.range n).map fun j => if j % 2 = 0 then a.getD (j / 2) 0 else if j / 2 < k then b.getD (j / 2) 0 else 0
theorem il1_length (a : List Int) (n k : Nat) : (il1 a n k).length = n := by simp [il1]
theorem il2_length (a b : List Int) (n k : Nat) : (il2 a b n k).length = n := by simp [il2]
theorem il1_zero (a : List Int) (n : Nat) : il1 a n 0 = List.replicate n 0 := by
  unfold il1
  apply List.ext_getElem (by simp)
  intro i h1 h2
  simp
theorem il1_at (a : List Int) (n k : Nat) (h : 2 * k < n) : (il1 a n k)[2 * k]? = some 0 := by
  simp [il1, h]
theorem il1_set (a : List Int) (n k : Nat) (z : Int) (h : a[k]? = some z) : (il1 a n k).set (2 * k) z = il1 a n (k + 1) := by
  refine map_set n _ _ _ _ (fun i hi => ?_) ?_
  · by_cases c : i % 2 = 0 ∧ i / 2 < k
    · rw [if_pos c, if_pos (by omega)]
    · rw [if_neg c, if_neg (by omega)]
  · show (if 2 * k % 2 = 0 ∧ 2 * k / 2 < k + 1 then _ else _) = z
    rw [if_pos (by omega), show 2 * k / 2 = k by omega, List.getD_eq_getElem?_getD, h]; rfl
theorem il1_all (a b : List Int) (n : Nat) (h : n ≤ 2 * a.length) : il1 a n a.length = il2 a b n 0 := by
  unfold il1 il2
  apply List.map_congr_left
  intro j hj
  have hj := List.mem_range.1 hj
  by_cases c : j % 2 = 0
  · rw [if_pos ⟨c, by omega⟩, if_pos c]
  · rw [if_neg (fun x => c x.1), if_neg c, if_neg (Nat.not_lt_zero _)]
theorem il2_at (a b : List Int) (n k : Nat) (h : 2 * k + 1 < n) : (il2 a b n k)[2 * k + 1]? = some 0 := by
  have e : ¬ (2 * k + 1) / 2 < k := by omega
  simp [il2, h, e]
theorem il2_set (a b : List Int) (n k : Nat) (z : Int) (h : b[k]? = some z) : (il2 a b n k).set (2 * k + 1) z = il2 a b n (k + 1) := by
  refine map_set n _ _ _ _ (fun i hi => ?_) ?_
  · by_cases c : i % 2 = 0
    · rw [if_pos c, if_pos c]
    · rw [if_neg c, if_neg c]
      by_cases d : i / 2 < k
      · rw [if_pos d, if_pos (by omega)]
      · rw [if_neg d, if_neg (by omega)]
  · show (if (2 * k + 1) % 2 = 0 then _ else if (2 * k + 1) / 2 < k + 1 then _ else _) = z
    rw [if_neg (by omega), if_pos (by omega), show (2 * k + 1) / 2 = k by omega, List.getD_eq_getElem?_getD, h]; rfl
theorem il2_all (a b : List Int) (n : Nat) (hn : n = a.length + b.length) (h : n ≤ 2 * b.length + 1) : il2 a b n b.length = ilL a b := by
  subst hn
  unfold il2 ilL
  apply List.map_congr_left
  intro j hj
  have hj := List.mem_range.1 hj
  unfold ilF
  by_cases c : j % 2 = 0
  · rw [if_pos c, if_pos c]
  · rw [if_neg c, if_neg c, if_pos (by omega)]
theorem ilv_no (v0 : Value) (zs0 : List Int) (v1 : Value) (zs1 : List Int) (w : World) (lo0 hi0 lo1 hi1 : Nat) (hv0 : Lies w lo0 hi0 v0 zs0) (hv1 : Lies w lo1 hi1 v1 zs1) (hs0 : zs0.length ≤ 1048576) (hs1 : zs1.length ≤ 1048576) (h : ilOk zs0 zs1 = false) : Calls Try.prog 9 #[v0, v1] w (NewRowB [] false w) := by
  obtain ⟨a0, cap0, rfl, hlc0, hcm0, hnil0, hcell0⟩ := hv0
  obtain ⟨a1, cap1, rfl, hlc1, hcm1, hnil1, hcell1⟩ := hv1
  unfold maxLen at hcm0 hcm1
  clear hcell0 hcell1 hnil0 hnil1
  have h := of_decide_eq_false h
  have HB := hidH (fun r (h : decide ((0 : Int) ≤ (zs0.length : Int) - zs1.length ∧ (zs0.length : Int) - zs1.length ≤ 1) = r) W' => between_any ((zs0.length : Int) - zs1.length) 0 1 r h W')
  generalize zs0.length = m at *
  generalize zs1.length = n at *
  by_cases hb : (0 : Int) ≤ (m : Int) - n ∧ (m : Int) - n ≤ 1
  · have HB1 := hidH (HB.out true (decide_eq_true hb))
    have hbig : 60 < m + n := by omega
    clear h hb
    go_enter Try.func9, Try.ntmps9
    go_wp2_with fail
    refine (HB1.out _).mono ?_; rintro e w1 ⟨rfl, rfl⟩
    go_wp2_with fail
    go_ret2
    exact ⟨_, rfl, Row.nil _ _ _ _ _ (Nat.zero_le _) (fun _ => rfl), Below.refl _ _⟩
  · have HB1 := hidH (HB.out false (decide_eq_false hb))
    clear h hb
    go_enter Try.func9, Try.ntmps9
    go_wp2_with fail
    refine (HB1.out _).mono ?_; rintro e w1 ⟨rfl, rfl⟩
    go_wp2_with fail
    go_ret2
    exact ⟨_, rfl, Row.nil _ _ _ _ _ (Nat.zero_le _) (fun _ => rfl), Below.refl _ _⟩
set_option maxHeartbeats 1600000 in
theorem ilv_yes (v0 : Value) (zs0 : List Int) (v1 : Value) (zs1 : List Int) (w : World) (lo0 hi0 lo1 hi1 : Nat) (hv0 : Lies w lo0 hi0 v0 zs0) (hv1 : Lies w lo1 hi1 v1 zs1) (hs0 : zs0.length ≤ 1048576) (hs1 : zs1.length ≤ 1048576) (h : ilOk zs0 zs1 = true) : Calls Try.prog 9 #[v0, v1] w (NewRowB (ilL zs0 zs1) true w) := by
  obtain ⟨a0, cap0, rfl, hlc0, hcm0, hnil0, hcell0⟩ := hv0
  obtain ⟨a1, cap1, rfl, hlc1, hcm1, hnil1, hcell1⟩ := hv1
  unfold maxLen at hcm0 hcm1
  have HC0 := hidH hcell0
  have HC1 := hidH hcell1
  clear hcell0 hcell1 hnil0 hnil1
  have ⟨hd, h60⟩ := of_decide_eq_true h
  clear h
  have HB1 := hidH (fun W' => between_any ((zs0.length : Int) - zs1.length) 0 1 true (decide_eq_true (by omega)) W')
  obtain ⟨N, hN⟩ : ∃ N, N = zs0.length + zs1.length := ⟨_, rfl⟩
  have HN := hidH hN
  have hNi : (zs0.length : Int) + (zs1.length : Int) = (N : Int) := by omega
  have hN1 : 2 * zs0.length ≤ N + 1 := by omega
  have hN2 : N ≤ 2 * zs0.length := by omega
  have hN3 : 2 * zs1.length ≤ N := by omega
  have hN4 : N ≤ 2 * zs1.length + 1 := by omega
  have hN5 : N ≤ 60 := by omega
  have hN6 : zs0.length ≤ 60 := by omega
  have hN7 : zs1.length ≤ 60 := by omega
  clear hN hd h60
  have HM := hidH (Blk.made w 3 N)
  have hmk := run_make_row' (P := Try.prog) 23 3 (.int .i64 0) 8 Try.underlying23 infoInt rfl .i64 .i64 N (by omega) (by omega) w
  go_enter Try.func9, Try.ntmps9
  go_wp2_with fail
  refine (HB1.out _).mono ?_; rintro e w1 ⟨rfl, rfl⟩
  go_wp2_with fail
  go_loopw [34] (fun i wr => ∃ k : Nat, k ≤ zs0.length ∧ i = .int .i64 k ∧ Blk wr w.heap.size (il1 zs0 N k) ∧ Below w.heap.size w wr) (fun i _ => zs0.length - (intOf i).toNat)
  case atStart => exact ⟨0, Nat.zero_le _, rfl, by have := HM.out; rw [il1_zero]; exact this, (Below.refl _ _).alloc (Nat.le_refl _) _⟩
  case round =>
    obtain ⟨k, hk, rfl, hblk, hb⟩ := hrel
    have HBK := hidH hblk
    have HBq := hidH hb
    clear hblk hb
    by_cases hlt : k < zs0.length
    · obtain ⟨z, hz⟩ := get_lt zs0 k hlt
      obtain ⟨b, off, rfl, _, hbl, hc⟩ := HC0.out k z hz
      have hcw : wr.cell? ⟨b, off + k, none⟩ = some (.int .i64 z) := by rw [HBq.out.cell (p := ⟨b, off + k, none⟩) (cell_blk _ _ _ hc)]; exact hc
      obtain ⟨ho, hf⟩ := HBK.out.2 (2 * k) 0 (il1_at _ _ _ (by omega))
      have HST := hidH (HBK.out.set (2 * k) z)
      have HG := hidH (il1_set zs0 N k z hz)
      obtain ⟨p, hp⟩ : ∃ p, p = 2 * k := ⟨_, rfl⟩
      rw [← hp] at ho hf HST HG
      have hp1 : 2 * (k : Int) = (p : Int) := by omega
      have hpN : p < N := by omega
      clear hz hc hp
      go_wp2_with fail
      go_roundw
      case rel => exact ⟨k + 1, by omega, by go_num, by rw [← HG.out]; exact HST.out, HBq.out.setCell (Nat.le_refl _) _⟩
      case measure => simp [intOf]; omega
    · obtain rfl : k = zs0.length := by omega
      have HBL := hidH HBK.out
      rw [il1_all zs0 zs1 N hN2] at HBL
      have HBz := HBq
      clear HBK HBq
      obtain ⟨wo, rfl⟩ : ∃ wo, wo = wr := ⟨wr, rfl⟩
      go_wp2_with fail
      go_loopw [47] (fun i wr => ∃ k : Nat, k ≤ zs1.length ∧ i = .int .i64 k ∧ Blk wr w.heap.size (il2 zs0 zs1 N k) ∧ Below w.heap.size w wr) (fun i _ => zs1.length - (intOf i).toNat)
      case atStart => exact ⟨0, Nat.zero_le _, rfl, HBL.out, HBz.out⟩
      case round =>
        obtain ⟨k, hk, rfl, hblk, hb⟩ := hrel
        have HBK := hidH hblk
        have HBq := hidH hb
        clear hblk hb
        by_cases hlt : k < zs1.length
        · obtain ⟨z, hz⟩ := get_lt zs1 k hlt
          obtain ⟨b, off, rfl, _, hbl, hc⟩ := HC1.out k z hz
          have hcw : wr.cell? ⟨b, off + k, none⟩ = some (.int .i64 z) := by rw [HBq.out.cell (p := ⟨b, off + k, none⟩) (cell_blk _ _ _ hc)]; exact hc
          obtain ⟨ho, hf⟩ := HBK.out.2 (2 * k + 1) 0 (il2_at _ _ _ _ (by omega))
          have HST := hidH (HBK.out.set (2 * k + 1) z)
          have HG := hidH (il2_set zs0 zs1 N k z hz)
          obtain ⟨p, hp⟩ : ∃ p, p = 2 * k + 1 := ⟨_, rfl⟩
          rw [← hp] at ho hf HST HG
          have hp1 : 2 * (k : Int) + 1 = (p : Int) := by omega
          have hpN : p < N := by omega
          clear hz hc hp
          go_wp2_with fail
          go_roundw
          case rel => exact ⟨k + 1, by omega, by go_num, by rw [← HG.out]; exact HST.out, HBq.out.setCell (Nat.le_refl _) _⟩
          case measure => simp [intOf]; omega
        · obtain rfl : k = zs1.length := by omega
          go_wp2_with fail
          go_ret2
          have h := HBK.out
          rw [il2_all zs0 zs1 N HN.out hN4] at h
          exact ⟨_, rfl, h.row (by omega) h.1 (by rw [ilL_length, HN.out]; exact Nat.le_refl _) (by unfold maxLen; omega) (by rw [ilL_length, HN.out]), HBq.out⟩
theorem ilv_any (v0 : Value) (zs0 : List Int) (v1 : Value) (zs1 : List Int) (w : World) (lo0 hi0 lo1 hi1 : Nat) (hv0 : Lies w lo0 hi0 v0 zs0) (hv1 : Lies w lo1 hi1 v1 zs1) (hs0 : zs0.length ≤ 1048576) (hs1 : zs1.length ≤ 1048576) : Calls Try.prog 9 #[v0, v1] w (NewRowB (ilA zs0 zs1) (ilOk zs0 zs1) w) := by
  unfold ilA
  cases h : ilOk zs0 zs1
  · exact ilv_no v0 zs0 v1 zs1 w lo0 hi0 lo1 hi1 hv0 hv1 hs0 hs1 h
  · exact ilv_yes v0 zs0 v1 zs1 w lo0 hi0 lo1 hi1 hv0 hv1 hs0 hs1 h
end Go.Proofs.Ythinpmhoklehaaa
