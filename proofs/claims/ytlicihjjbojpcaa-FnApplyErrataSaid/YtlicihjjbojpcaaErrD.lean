/-
  SlipEffect: the program and the model, at every argument. No conditions.
-/
import Derived.Test.YtlicihjjbojpcaaErrB
namespace Go.Proofs.Ytlicihjjbojpcaa
set_option maxRecDepth 4000
open Go.RowKit
/-- The numbers of a slip. -/
def colOk (c : Int) : Bool := decide (0 ≤ c ∧ c ≤ 6)
def trnOk (t : Int) : Bool := decide (0 ≤ t ∧ t ≤ 59)
def cntOk4 (c : Int) : Bool := decide (0 ≤ c ∧ c ≤ 60)
def slipOk (c t a : Int) : Bool := colOk c && (trnOk t && inB 100000 a)
/-- By how much the result with the index n is wrong. -/
def effN (c t : Nat) (a : Int) (n : Nat) : Int := if n < t then 0 else a * chN ((n - t : Nat) : Int) c
def effL (c t : Nat) (a : Int) (count : Nat) : List Int := (List.range count).map (effN c t a)
theorem effL_length (c t : Nat) (a : Int) (n : Nat) : (effL c t a n).length = n := by simp [effL]
theorem effL_get (c t : Nat) (a : Int) (n k : Nat) (h : k < n) : (effL c t a n)[k]? = some (effN c t a k) := by simp [effL, h]
theorem effL_snoc (c t : Nat) (a : Int) (n : Nat) : effL c t a (n + 1) = effL c t a n ++ [effN c t a n] := by simp [effL, List.range_succ]
def effOk (c t a n : Int) : Bool := slipOk c t a && cntOk4 n
def effA (c t a n : Int) : List Int := if effOk c t a n then effL c.toNat t.toNat a n.toNat else []
theorem effA_len (c t a n : Int) : (effA c t a n).length ≤ 1048576 := by
  unfold effA
  split
  · rename_i h
    simp only [effOk, Bool.and_eq_true] at h
    have := of_decide_eq_true h.2
    rw [effL_length]; omega
  · simp
theorem eff_bd (c t : Nat) (hc : c ≤ 6) (a : Int) (ha : -100000 ≤ a ∧ a ≤ 100000) (n : Nat) (hn : n ≤ 100) (ht : t ≤ n) : -200000000000000000 ≤ a * chN ((n - t : Nat) : Int) c ∧ a * chN ((n - t : Nat) : Int) c ≤ 200000000000000000 := by
  have ⟨h1, h2⟩ := chN_bd ((n - t : Nat) : Int) (by omega) (by omega) c hc
  have := abs_mul_le (a := a) (b := chN ((n - t : Nat) : Int) c) (A := 100000) (B := 1200000000000) (by omega) (by omega)
  omega
theorem sEffect_any (c t n : Nat) (a : Int) (hc : c ≤ 6) (ht : t ≤ 100) (hn : n ≤ 100) (ha : -100000 ≤ a ∧ a ≤ 100000) (w : World) : Calls Try.prog 90 #[.int .i64 c, .int .i64 t, .int .i64 a, .int .i64 n] w fun e w' => e = .returned (.int .i64 (effN c t a n)) ∧ w = w' := by
  by_cases h : n < t
  · have HE := hidH (show effN c t a n = 0 by rw [effN, if_pos h])
    go_enter Try.func90, Try.ntmps90
    go_wp2
    go_ret
    exact ⟨by rw [HE.out]; rfl, rfl⟩
  · have HE := hidH (show effN c t a n = a * chN ((n - t : Nat) : Int) c by rw [effN, if_neg h])
    have hbd := eff_bd c t hc a ha n hn (by omega)
    have HK := hidH (sChoose_any ((n - t : Nat) : Int) (by omega) (by omega) c hc w)
    obtain ⟨m, hm⟩ : ∃ m : Nat, n - t = m := ⟨_, rfl⟩
    have hnm : (n : Int) - (t : Int) = (m : Int) := by omega
    rw [hm] at HE HK hbd
    generalize chN ((m : Nat) : Int) c = q at *
    clear hm
    go_enter Try.func90, Try.ntmps90
    go_wp2_with fail
    refine HK.out.mono ?_; rintro e w' ⟨rfl, rfl⟩
    go_wp2_with fail
    go_ret
    exact ⟨by rw [HE.out]; rfl, rfl⟩
theorem sSlip_any (c t a : Int) (w : World) : Calls Try.prog 89 #[.int .i64 c, .int .i64 t, .int .i64 a] w fun e w' => e = .returned (.bool (slipOk c t a)) ∧ w = w' := by
  unfold slipOk
  cases h0 : colOk c
  · have H0 := hidH h0
    clear h0
    rw [Bool.false_and]
    go_enter Try.func89, Try.ntmps89
    go_wp2_with fail
    refine (sIn_any c 0 6 (colOk c) rfl _).mono ?_; rintro e w_ ⟨rfl, rfl⟩
    rw [H0.out]
    go_wp2_with fail
    go_ret
    exact ⟨rfl, rfl⟩
  · have H0 := hidH h0
    clear h0
    rw [Bool.true_and]
    cases h1 : trnOk t
    · have H1 := hidH h1
      clear h1
      rw [Bool.false_and]
      go_enter Try.func89, Try.ntmps89
      go_wp2_with fail
      refine (sIn_any c 0 6 (colOk c) rfl _).mono ?_; rintro e w_ ⟨rfl, rfl⟩
      rw [H0.out]
      go_wp2_with fail
      refine (sIn_any t 0 59 (trnOk t) rfl _).mono ?_; rintro e w_ ⟨rfl, rfl⟩
      rw [H1.out]
      go_wp2_with fail
      go_ret
      exact ⟨rfl, rfl⟩
    · have H1 := hidH h1
      clear h1
      rw [Bool.true_and]
      go_enter Try.func89, Try.ntmps89
      go_wp2_with fail
      refine (sIn_any c 0 6 (colOk c) rfl _).mono ?_; rintro e w_ ⟨rfl, rfl⟩
      rw [H0.out]
      go_wp2_with fail
      refine (sIn_any t 0 59 (trnOk t) rfl _).mono ?_; rintro e w_ ⟨rfl, rfl⟩
      rw [H1.out]
      go_wp2_with fail
      refine (sIn_any a (-100000) 100000 (inB 100000 a) rfl _).mono ?_; rintro e w_ ⟨rfl, rfl⟩
      go_wp2_with fail
      go_ret
      exact ⟨rfl, rfl⟩
theorem slip_bd {c t a : Int} (h : slipOk c t a = true) : 0 ≤ c ∧ c ≤ 6 ∧ 0 ≤ t ∧ t ≤ 59 ∧ -100000 ≤ a ∧ a ≤ 100000 := by
  simp only [slipOk, Bool.and_eq_true] at h
  obtain ⟨h1, h2, h3⟩ := h
  have := of_decide_eq_true h1; have := of_decide_eq_true h2; have := of_decide_eq_true h3
  omega
theorem sSlipE_no (n0 : Int) (n1 : Int) (n2 : Int) (n3 : Int) (w : World) (h : (((slipOk n0 n1 n2) && (cntOk4 n3))) = false) : Calls Try.prog 83 #[.int .i64 n0, .int .i64 n1, .int .i64 n2, .int .i64 n3] w (NewRowB [] false w) := by
  have HB0 := hidH (Below.refl w.heap.size w)
  cases hc0 : slipOk n0 n1 n2
  · have HC0 := hidH hc0
    clear h hc0
    go_enter Try.func83, Try.ntmps83
    go_wp2_with fail
    refine (sSlip_any n0 n1 n2 _).mono ?_; rintro e w_ ⟨rfl, rfl⟩
    rw [HC0.out]
    go_wp2_with fail
    go_ret2
    exact ⟨_, rfl, Row.nil _ _ _ _ _ (Nat.zero_le _) (fun _ => rfl), HB0.out.trans (((Below.refl _ _).alloc (Nat.le_refl _) _).mono HB0.out.size)⟩
  · rw [hc0, Bool.true_and] at h
    have HC0 := hidH hc0
    clear hc0
    · have HC1 := hidH h
      clear h
      go_enter Try.func83, Try.ntmps83
      go_wp2_with fail
      refine (sSlip_any n0 n1 n2 _).mono ?_; rintro e w_ ⟨rfl, rfl⟩
      rw [HC0.out]
      go_wp2_with fail
      refine (sIn_any (n3) (0) (60) (cntOk4 n3) rfl _).mono ?_; rintro e w_ ⟨rfl, rfl⟩
      rw [HC1.out]
      go_wp2_with fail
      go_ret2
      exact ⟨_, rfl, Row.nil _ _ _ _ _ (Nat.zero_le _) (fun _ => rfl), HB0.out.trans (((Below.refl _ _).alloc (Nat.le_refl _) _).mono HB0.out.size)⟩
set_option maxHeartbeats 800000 in
theorem sSlipE_yes (n0 : Int) (n1 : Int) (n2 : Int) (n3 : Int) (w : World) (hc0 : (slipOk n0 n1 n2) = true) (hc1 : (cntOk4 n3) = true) : Calls Try.prog 83 #[.int .i64 n0, .int .i64 n1, .int .i64 n2, .int .i64 n3] w (NewRowB (effL n0.toNat n1.toNat n2 n3.toNat) true w) := by
  have HB0 := hidH (Below.refl w.heap.size w)
  have HC0 := hidH hc0
  have HC1 := hidH hc1
  clear hc0 hc1
  have ⟨c1, c2, t1, t2, a1, a2⟩ := slip_bd HC0.out
  have ⟨m1, m2⟩ := of_decide_eq_true HC1.out
  obtain ⟨c, rfl⟩ := Int.eq_ofNat_of_zero_le c1
  obtain ⟨t, rfl⟩ := Int.eq_ofNat_of_zero_le t1
  obtain ⟨m, rfl⟩ := Int.eq_ofNat_of_zero_le m1
  have HTC := hidH (Int.toNat_natCast c)
  have HTT := hidH (Int.toNat_natCast t)
  have HTM := hidH (Int.toNat_natCast m)
  clear c1 t1 m1
  go_enter Try.func83, Try.ntmps83
  go_wp2_with fail
  refine (sSlip_any _ _ _ _).mono ?_; rintro e w_ ⟨rfl, rfl⟩
  rw [HC0.out]
  go_wp2_with fail
  refine (sIn_any (m : Int) 0 60 (cntOk4 (m : Int)) rfl _).mono ?_; rintro e w_ ⟨rfl, rfl⟩
  rw [HC1.out]
  obtain ⟨i0, hi0, hz0, hz1, hz2⟩ := info_parts infoInt
  have HO := hidH (World.ownsRow_made (base := (w).heap.size) (e := 3) (size := 1) w #[] 0 (Nat.le_refl _) (Nat.zero_le _) rfl)
  have HLL := hidH (effL_length c t n2 m)
  go_wp2_with fail
  go_loopw [10, 11] (fun o i wr => ∃ (k : Nat) (ov : Value), k ≤ m ∧ i = .int .i64 k ∧ ov = o ∧ wr.ownsRow (w).heap.size 3 1 ov k (ints ((effL c t n2 m).take k)) ∧ Below (w).heap.size w wr) (fun _ i _ => m - (intOf i).toNat)
  case atStart => exact ⟨0, _, Nat.zero_le _, rfl, rfl, HO.out, (Below.refl _ _).alloc (Nat.le_refl _) _⟩
  case round =>
    obtain ⟨k, ov, hk, rfl, rfl, hown, hb⟩ := hrel
    have HW := hidH hown
    have HBq := hidH hb
    clear hown hb
    have hszq := HBq.out.size
    by_cases hlt : k < m
    · have HX := hidH (ints_snoc _ k _ (effL_get c t n2 m k hlt))
      go_wp2_with fail
      refine (sEffect_any c t k n2 (by omega) (by omega) (by omega) ⟨a1, a2⟩ wr).mono ?_; rintro e w5 ⟨rfl, rfl⟩
      generalize effN c t n2 k = z at *
      go_wp2_with (at_builtin; refine wpList_append_own _ rfl _ _ 23 rfl (w).heap.size 3 i0 (.int .i64 0) 1 8 Try.underlying23 hi0 hz0 hz1 hz2 rfl (by decide) _ _ _ rfl (owns_below HW.out ((Below.refl _ _).alloc (Nat.le_refl _) _)) ⟨wr.heap.size, 0, none⟩ 1 1 [.int .i64 (z)] rfl rfl (news_one wr _ _) (one_one _) (by unfold maxLen; omega) (by omega) (by simp; omega) ?_)
      intro v' w1 hown1 hgrow _
      have HR := hidH hown1
      have HG := hidH hgrow
      clear hown1 hgrow
      go_wp2_with fail
      go_roundw
      case rel =>
        refine ⟨k + 1, v', by omega, by go_num, rfl, ?_, ?_⟩
        · have h := HR.out
          rw [HX.out] at h
          exact h
        · exact (HBq.out.alloc hszq _).grown HG.out (by simp; omega) fun g hg => (HW.out.lt g hg).1
      case measure => simp [intOf]; omega
    · obtain rfl : k = m := by omega
      have h := HW.out
      rw [List.take_of_length_le (by rw [HLL.out]; exact Nat.le_refl _)] at h
      have HRW := hidH (row_of_owns h).1
      clear h
      go_wp2_with fail
      go_ret2
      rw [HTC.out, HTT.out, HTM.out]
      exact ⟨_, rfl, HRW.out, HBq.out⟩
theorem sSlipE_any (n0 : Int) (n1 : Int) (n2 : Int) (n3 : Int) (w : World) : Calls Try.prog 83 #[.int .i64 n0, .int .i64 n1, .int .i64 n2, .int .i64 n3] w (NewRowB (effA n0 n1 n2 n3) (effOk n0 n1 n2 n3) w) := by
  unfold effA effOk
  cases h : (slipOk n0 n1 n2 && cntOk4 n3)
  · exact sSlipE_no n0 n1 n2 n3 w   h
  · have h' := h
    simp only [Bool.and_eq_true] at h'
    obtain ⟨h0, h1⟩ := h'
    exact sSlipE_yes n0 n1 n2 n3 w   h0 h1
end Go.Proofs.Ytlicihjjbojpcaa
