/-
  Sizes of parts: the program and the model, at every argument. No conditions but that slices fit in memory.
-/
import Derived.Test.YtgogpajafjihdaaEsB
import Derived.Test.YtgogpajafjihdaaEngH
import Derived.Test.YtgogpajafjihdaaRndA
import Derived.Test.YtgogpajafjihdaaIn
namespace Go.Proofs.Ytgogpajafjihdaa
set_option maxRecDepth 4000
open Go.RowKit
def preI (zs : List Int) (k : Nat) : Int := (zs.take k).sum
/-- Sizes of parts. -/
def szOk (zs : List Int) : Bool := decide (1 ≤ zs.length ∧ zs.length ≤ 10) && (zs.all (fun z => decide (0 ≤ z)) && decide (zs.sum ≤ 60))
def partB (p : List Int) (f : Int) (zs : List Int) (wi : Int) : Bool := szOk zs && (List.range zs.length).all fun i => setB p (f + preI zs i) wi
def partL (p : List Int) (f : Int) (zs : List Int) (wi : Int) : List (List ByteArray) := (List.range zs.length).map fun i => setL p (f + preI zs i) wi
/-- What PartEngines answers. -/
def partA (p : List Int) (f : Int) (zs : List Int) (wi : Int) : List (List ByteArray) := if partB p f zs wi then partL p f zs wi else []
theorem partL_length (p : List Int) (f : Int) (zs : List Int) (wi : Int) : (partL p f zs wi).length = zs.length := by simp [partL]
theorem partL_get (p : List Int) (f : Int) (zs : List Int) (wi : Int) (k : Nat) (h : k < zs.length) : (partL p f zs wi)[k]? = some (setL p (f + preI zs k) wi) := by simp [partL, h]
theorem preI_next (zs : List Int) (k : Nat) (z : Int) (h : zs[k]? = some z) : preI zs (k + 1) = preI zs k + z := by
  unfold preI
  rw [List.take_add_one, h, List.sum_append]
  simp
theorem sum_nonneg (zs : List Int) (h : ∀ z ∈ zs, 0 ≤ z) : 0 ≤ zs.sum := by
  induction zs with
  | nil => exact Int.le_refl _
  | cons z zs ih =>
    rw [List.sum_cons]
    have := h z (List.mem_cons_self ..)
    have := ih (fun y hy => h y (List.mem_cons_of_mem _ hy))
    omega
theorem szOk_parts {zs : List Int} (h : szOk zs = true) : 1 ≤ zs.length ∧ zs.length ≤ 10 ∧ (∀ z ∈ zs, 0 ≤ z) ∧ zs.sum ≤ 60 := by
  simp only [szOk, Bool.and_eq_true, decide_eq_true_eq] at h
  exact ⟨h.1.1, h.1.2, fun z hz => of_decide_eq_true (List.all_eq_true.1 h.2.1 z hz), h.2.2⟩
theorem pre_bd {zs : List Int} (h : ∀ z ∈ zs, 0 ≤ z) (k : Nat) : 0 ≤ preI zs k ∧ preI zs k ≤ zs.sum := by
  have e : zs.sum = preI zs k + (zs.drop k).sum := by
    unfold preI
    rw [← List.sum_append, List.take_append_drop]
  have h1 := sum_nonneg (zs.take k) (fun z hz => h z (List.mem_of_mem_take hz))
  have h2 := sum_nonneg (zs.drop k) (fun z hz => h z (List.mem_of_mem_drop hz))
  unfold preI at *
  omega
theorem szOk_bad {zs : List Int} {k : Nat} {z : Int} (hk : zs[k]? = some z) (h : z < 0 ∨ 60 < z ∨ 60 < preI zs k + z) : szOk zs = false := by
  cases e : szOk zs
  · rfl
  · have ⟨_, _, h3, h4⟩ := szOk_parts e
    have p1 := pre_bd h3 k
    have p2 := pre_bd h3 (k + 1)
    rw [preI_next zs k z hk] at p2
    have := h3 z (List.mem_of_getElem? hk)
    omega
theorem szOk_len {zs : List Int} (h : ¬ (1 ≤ zs.length ∧ zs.length ≤ 10)) : szOk zs = false := by
  unfold szOk
  rw [decide_eq_false h]; rfl
theorem szOk_of {zs : List Int} (h1 : 1 ≤ zs.length ∧ zs.length ≤ 10) (h2 : ∀ j z, j < zs.length → zs[j]? = some z → 0 ≤ z) (h3 : preI zs zs.length ≤ 60) : szOk zs = true := by
  unfold szOk
  rw [decide_eq_true h1, show zs.all (fun z => decide (0 ≤ z)) = true from List.all_eq_true.2 fun z hz => by
    obtain ⟨j, hj⟩ := List.getElem?_of_mem hz
    exact decide_eq_true (h2 j z (List.getElem?_eq_some_iff.1 hj).1 hj)]
  unfold preI at h3
  rw [List.take_length] at h3
  rw [decide_eq_true h3]; rfl
theorem setB_in {p : List Int} {n wi : Int} (h : setB p n wi = true) : inB 200 n = true ∧ 1 ≤ (setL p n wi).length ∧ (setL p n wi).length ≤ 7 := by
  unfold setB at h
  rw [Bool.and_eq_true] at h
  have hs := shift_pos p n h.1
  have hl : (setL p n wi).length = (shiftA p n).length := by
    rw [setL_yes p n wi h.1, listA, h.2, if_pos rfl, listL_length]
  have hi := h.1
  unfold shiftB at hi
  simp only [Bool.and_eq_true] at hi
  exact ⟨by first | exact hi.1.2 | exact hi.2.1, by omega, by omega⟩
theorem partB_bad {p : List Int} {f : Int} {zs : List Int} {wi : Int} (k : Nat) (hk : k < zs.length) (h : setB p (f + preI zs k) wi = false) : partB p f zs wi = false := by
  have : ((List.range zs.length).all fun i => setB p (f + preI zs i) wi) = false := by
    cases e : (List.range zs.length).all fun i => setB p (f + preI zs i) wi
    · rfl
    · rw [List.all_eq_true.1 e k (List.mem_range.2 hk)] at h; cases h
  unfold partB
  rw [this, Bool.and_false]
theorem partB_of {p : List Int} {f : Int} {zs : List Int} {wi : Int} (hs : szOk zs = true) (h : ∀ j, j < zs.length → setB p (f + preI zs j) wi = true) : partB p f zs wi = true := by
  unfold partB
  rw [hs, show ((List.range zs.length).all fun i => setB p (f + preI zs i) wi) = true from List.all_eq_true.2 fun i hi => h i (List.mem_range.1 hi)]; rfl
theorem part_yes {p : List Int} {f : Int} {zs : List Int} {wi : Int} (h : partB p f zs wi = true) : partA p f zs wi = partL p f zs wi := if_pos h
theorem part_no {p : List Int} {f : Int} {zs : List Int} {wi : Int} (h : partB p f zs wi = false) : partA p f zs wi = [] := by rw [partA, h]; rfl
theorem part_pos {p : List Int} {f : Int} {zs : List Int} {wi : Int} (h : partB p f zs wi = true) : ∀ cs ∈ partL p f zs wi, 0 < cs.length ∧ cs.length ≤ 1048576 := by
  intro cs hc
  unfold partL at hc
  obtain ⟨i, hi, rfl⟩ := List.mem_map.1 hc
  rw [partB, Bool.and_eq_true] at h
  have := (setB_in (List.all_eq_true.1 h.2 i hi)).2
  omega
theorem lenE_le (es : List (List ByteArray)) (n : Nat) (h : ∀ cs ∈ es, cs.length ≤ n) : lenE es ≤ es.length * n := by
  unfold lenE
  induction es with
  | nil => simp
  | cons s es ih =>
    rw [List.map_cons, List.sum_cons, List.length_cons, Nat.add_mul]
    have := h s (List.mem_cons_self ..)
    have := ih (fun y hy => h y (List.mem_cons_of_mem _ hy))
    omega
theorem partA_len (p : List Int) (f : Int) (zs : List Int) (wi : Int) : (partA p f zs wi).length ≤ 10 ∧ lenE (partA p f zs wi) ≤ 100 := by
  cases h : partB p f zs wi
  · rw [part_no h]; simp [lenE]
  · rw [part_yes h]
    have h10 : (partL p f zs wi).length ≤ 10 := by
      have h' := h
      rw [partB, Bool.and_eq_true] at h'
      rw [partL_length]; exact (szOk_parts h'.1).2.1
    refine ⟨h10, ?_⟩
    have := lenE_le (partL p f zs wi) 7 (fun cs hc => by
      unfold partL at hc
      obtain ⟨i, hi, rfl⟩ := List.mem_map.1 hc
      rw [partB, Bool.and_eq_true] at h
      exact (setB_in (List.all_eq_true.1 h.2 i hi)).2.2)
    omega
set_option maxHeartbeats 800000 in
theorem areSizes_any (v : Value) (zs : List Int) (w : World) (lo hi : Nat) (hv : Lies w lo hi v zs) : Calls Try.prog 25 #[v] w fun e w' => e = .returned (.bool (szOk zs)) ∧ w' = w := by
  obtain ⟨a, cap, rfl, hlc, hcm, hnil, hcell⟩ := hv
  unfold maxLen at hcm
  have HC := hidH hcell
  clear hcell hnil
  have HBT := hidH (fun (n a b : Int) W' => between_any n a b (decide (a ≤ n ∧ n ≤ b)) rfl W')
  go_enter Try.func25, Try.ntmps25
  go_wp2_with fail
  go_loopw [3, 8] (fun m i wr => ∃ k : Nat, k ≤ zs.length ∧ i = .int .i64 k ∧ m = .int .i64 (60 - preI zs k) ∧ 0 ≤ preI zs k ∧ preI zs k ≤ 60 ∧ (∀ j z, j < k → zs[j]? = some z → 0 ≤ z) ∧ w = wr) (fun _ i _ => zs.length - (intOf i).toNat)
  case atStart => exact ⟨0, Nat.zero_le _, rfl, by simp [preI], by simp [preI], by simp [preI], (fun _ _ h => absurd h (Nat.not_lt_zero _)), rfl⟩
  case round =>
    obtain ⟨k, hk, rfl, rfl, g0, g1, hnn, rfl⟩ := hrel
    have HNN := hidH hnn
    clear hnn
    by_cases hlt : k < zs.length
    · obtain ⟨z, hz⟩ := get_lt zs k hlt
      obtain ⟨b, off, rfl, _, _, hc⟩ := HC.out k z hz
      have HZ := hidH hz
      have HPN := hidH (preI_next zs k z hz)
      generalize hq : preI zs k = q at *
      have HQ := hidH hq
      clear hz hq
      go_wp2_with fail
      refine (HBT.out _ _ _ _).mono ?_; rintro e w1 ⟨rfl, rfl⟩
      by_cases hin : 0 ≤ z ∧ z ≤ 60 - q
      · have HD := hidH (decide_eq_true hin)
        obtain ⟨z0, z1⟩ := hin
        rw [HD.out]
        go_wp2_with fail
        go_roundw
        case rel =>
          refine ⟨k + 1, by omega, by go_num, ?_, by rw [HPN.out]; omega, by rw [HPN.out]; omega, fun j y hj hy => ?_, by first | rfl | trivial⟩
          · rw [HPN.out]; show Value.int .i64 _ = Value.int .i64 _; congr 1; omega
          · by_cases e : j = k
            · subst e
              rw [HZ.out] at hy
              injection hy with hy
              omega
            · exact HNN.out j y (by omega) hy
        case measure => simp [intOf]; omega
      · have HF := hidH (szOk_bad HZ.out (by rw [HQ.out]; omega))
        have HD := hidH (decide_eq_false hin)
        rw [HD.out]
        clear hin
        go_wp2_with fail
        go_ret
        exact ⟨by rw [HF.out]; rfl, rfl⟩
    · obtain rfl : k = zs.length := by omega
      have HS := hidH (fun h => szOk_of (zs := zs) h HNN.out g1)
      have HS2 := hidH (fun h => szOk_len (zs := zs) h)
      clear HNN g0 g1
      by_cases h : 1 ≤ zs.length ∧ zs.length ≤ 10
      · have HD := hidH (fun W => between_any (zs.length : Int) 1 10 true (decide_eq_true (by omega)) W)
        have HE := hidH (HS.out h)
        clear h
        go_wp2_with fail
        refine (HD.out _).mono ?_; rintro e w1 ⟨rfl, rfl⟩
        go_wp2_with fail
        go_ret
        exact ⟨by rw [HE.out]; rfl, rfl⟩
      · have HD := hidH (fun W => between_any (zs.length : Int) 1 10 false (decide_eq_false (by omega)) W)
        have HE := hidH (HS2.out h)
        clear h
        go_wp2_with fail
        refine (HD.out _).mono ?_; rintro e w1 ⟨rfl, rfl⟩
        go_wp2_with fail
        go_ret
        exact ⟨by rw [HE.out]; rfl, rfl⟩
set_option maxHeartbeats 800000 in
theorem l7Sizes_any (v : Value) (zs : List Int) (w : World) (lo hi : Nat) (hv : Lies w lo hi v zs) (hn : zs.length ≤ 1048576) : Calls Try.prog 41 #[v] w fun e w' => e = .returned (.bool (szOk zs)) ∧ w' = w := by
  obtain ⟨a, cap, rfl, hlc, hcm, hnil, hcell⟩ := hv
  unfold maxLen at hcm
  have HC := hidH hcell
  clear hcell hnil
  have HBT := hidH (fun (n a b : Int) W' => sIn_any n a b (decide (a ≤ n ∧ n ≤ b)) rfl W')
  go_enter Try.func41, Try.ntmps41
  go_wp2_with fail
  go_loopw [3, 4] (fun m i wr => ∃ k : Nat, k ≤ zs.length ∧ i = .int .i64 k ∧ m = .int .i64 (preI zs k) ∧ 0 ≤ preI zs k ∧ preI zs k ≤ 60 * k ∧ (∀ j z, j < k → zs[j]? = some z → 0 ≤ z) ∧ w = wr) (fun _ i _ => zs.length - (intOf i).toNat)
  case atStart => exact ⟨0, Nat.zero_le _, rfl, by simp [preI], by simp [preI], by simp [preI], (fun _ _ h => absurd h (Nat.not_lt_zero _)), rfl⟩
  case round =>
    obtain ⟨k, hk, rfl, rfl, g0, g1, hnn, rfl⟩ := hrel
    have HNN := hidH hnn
    clear hnn
    by_cases hlt : k < zs.length
    · obtain ⟨z, hz⟩ := get_lt zs k hlt
      obtain ⟨b, off, rfl, _, _, hc⟩ := HC.out k z hz
      have HZ := hidH hz
      have HPN := hidH (preI_next zs k z hz)
      generalize hq : preI zs k = q at *
      have HQ := hidH hq
      clear hz hq
      go_wp2_with fail
      refine (HBT.out _ _ _ _).mono ?_; rintro e w1 ⟨rfl, rfl⟩
      by_cases hin : 0 ≤ z ∧ z ≤ 60
      · have HD := hidH (decide_eq_true hin)
        obtain ⟨z0, z1⟩ := hin
        rw [HD.out]
        go_wp2_with fail
        go_roundw
        case rel =>
          refine ⟨k + 1, by omega, by go_num, by rw [HPN.out], by rw [HPN.out]; omega, by rw [HPN.out]; omega, fun j y hj hy => ?_, by first | rfl | trivial⟩
          by_cases e : j = k
          · subst e
            rw [HZ.out] at hy
            injection hy with hy
            omega
          · exact HNN.out j y (by omega) hy
        case measure => simp [intOf]; omega
      · have HF := hidH (szOk_bad HZ.out (by omega))
        have HD := hidH (decide_eq_false hin)
        rw [HD.out]
        clear hin
        go_wp2_with fail
        go_ret
        exact ⟨by rw [HF.out]; rfl, rfl⟩
    · obtain rfl : k = zs.length := by omega
      have HS := hidH (fun h h3 => szOk_of (zs := zs) h HNN.out h3)
      have HS2 := hidH (fun h => szOk_len (zs := zs) h)
      have HS3 := hidH (show ¬ preI zs zs.length ≤ 60 → szOk zs = false from fun h => by
        cases e : szOk zs
        · rfl
        · have ⟨_, _, h3, h4⟩ := szOk_parts e
          have := (pre_bd h3 zs.length).2
          omega)
      clear HNN
      generalize preI zs zs.length = q at *
      by_cases h : 1 ≤ zs.length ∧ zs.length ≤ 10
      · have HD := hidH (fun W => sIn_any (zs.length : Int) 1 10 true (decide_eq_true (by omega)) W)
        have HS := hidH (HS.out h)
        clear h
        by_cases h6 : q ≤ 60
        · have HE := hidH (HS.out h6)
          go_wp2_with fail
          refine (HD.out _).mono ?_; rintro e w1 ⟨rfl, rfl⟩
          go_wp2_with fail
          go_ret
          exact ⟨by rw [HE.out]; rfl, rfl⟩
        · have HE := hidH (HS3.out h6)
          have hd6 : decide (q ≤ 60) = false := decide_eq_false h6
          go_wp2_with fail
          refine (HD.out _).mono ?_; rintro e w1 ⟨rfl, rfl⟩
          go_wp2_with fail
          go_ret
          exact ⟨by rw [HE.out]; rfl, rfl⟩
      · have HD := hidH (fun W => sIn_any (zs.length : Int) 1 10 false (decide_eq_false (by omega)) W)
        have HE := hidH (HS2.out h)
        clear h
        go_wp2_with fail
        refine (HD.out _).mono ?_; rintro e w1 ⟨rfl, rfl⟩
        go_wp2_with fail
        go_ret
        exact ⟨by rw [HE.out]; rfl, rfl⟩
end Go.Proofs.Ytgogpajafjihdaa
