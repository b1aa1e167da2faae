/-
  ErrorPattern: the program and the model, at every argument. No conditions.
-/
import Derived.Test.YtiehkjidcnnncaaErrA
namespace Go.Proofs.Ytiehkjidcnnncaa
set_option maxRecDepth 4000
open Go.RowKit
theorem binom7_any (o : Nat) (ho : o ≤ 7) (k : Nat) (hk : k ≤ 8) (w : World) : Calls Try.prog 63 #[.int .i64 o, .int .i64 k] w fun e w' => e = .returned (.int .i64 (chN (o : Nat) k)) ∧ w = w' := by
  go_enter Try.func63, Try.ntmps63
  go_wp2
  go_loop [5, 8] (fun p i => ∃ j : Nat, j ≤ k ∧ i = .int .i64 j ∧ p = .int .i64 (chN (o : Nat) j)) (fun _ i => k - (intOf i).toNat)
  case atStart => exact ⟨0, Nat.zero_le _, rfl, rfl⟩
  case round =>
    obtain ⟨j, hj, rfl, rfl⟩ := hrel
    by_cases hlt : j < k
    · have ⟨b1, b2⟩ := chN_small_mul o (by omega) j (by omega)
      have ⟨b3, b4⟩ := chN_small o (by omega) j (by omega)
      have ⟨b5, b6⟩ := chN_small o (by omega) (j + 1) (by omega)
      go_wp2
      go_round
      case rel => exact ⟨j + 1, by omega, by go_num, by rw [chN]⟩
      case measure => simp [intOf]; omega
    · go_wp2
      obtain rfl : j = k := by omega
      go_ret
      exact ⟨rfl, rfl⟩
theorem sChoose7_any (o : Nat) (ho : o ≤ 7) (k : Nat) (hk : k ≤ 8) (w : World) : Calls Try.prog 61 #[.int .i64 o, .int .i64 k] w fun e w' => e = .returned (.int .i64 (chN (o : Nat) k)) ∧ w = w' := by
  go_enter Try.func61, Try.ntmps61
  go_wp2
  go_loop [5, 6] (fun p i => ∃ j : Nat, j ≤ k ∧ i = .int .i64 j ∧ p = .int .i64 (chN (o : Nat) j)) (fun _ i => k - (intOf i).toNat)
  case atStart => exact ⟨0, Nat.zero_le _, rfl, rfl⟩
  case round =>
    obtain ⟨j, hj, rfl, rfl⟩ := hrel
    by_cases hlt : j < k
    · have ⟨b1, b2⟩ := chN_small_mul o (by omega) j (by omega)
      have ⟨b3, b4⟩ := chN_small o (by omega) j (by omega)
      have ⟨b5, b6⟩ := chN_small o (by omega) (j + 1) (by omega)
      go_wp2
      go_round
      case rel => exact ⟨j + 1, by omega, by go_num, by rw [chN]⟩
      case measure => simp [intOf]; omega
    · go_wp2
      obtain rfl : j = k := by omega
      go_ret
      exact ⟨rfl, rfl⟩
theorem sSign_any (k : Nat) (w : World) (hk : k ≤ 1000) : Calls Try.prog 60 #[.int .i64 k] w fun e w' => e = .returned (.int .i64 (sg k)) ∧ w = w' := by
  by_cases h : k % 2 = 0
  · have HE := hidH (show sg k = 1 by rw [sg, if_pos h])
    have h2 : (k : Int) % 2 = 0 := by omega
    have h3 : (k : Int).tmod 2 = 0 := by rw [Int.tmod_eq_emod_of_nonneg (by omega)]; exact h2
    clear h
    go_enter Try.func60, Try.ntmps60
    go_wp2
    go_ret
    exact ⟨by rw [HE.out]; rfl, rfl⟩
  · have HE := hidH (show sg k = -1 by rw [sg, if_neg h])
    have h2 : (k : Int) % 2 = 1 := by omega
    have h3 : (k : Int).tmod 2 = 1 := by rw [Int.tmod_eq_emod_of_nonneg (by omega)]; exact h2
    clear h
    go_enter Try.func60, Try.ntmps60
    go_wp2
    go_ret
    exact ⟨by rw [HE.out]; rfl, rfl⟩
theorem fillp_set (o : Nat) (a m c : Int) (k : Nat) (hk : k ≤ o) (hm : m = sg k * a) (hc : c = chN (o : Nat) k) : (fill (patL o a) k).set k (m * c) = fill (patL o a) (k + 1) := by
  subst hm; subst hc
  exact fill_set _ k _ (by rw [patL_get o a k hk, Int.mul_assoc, Int.mul_assoc, Int.mul_comm a])
set_option maxHeartbeats 400000 in
theorem pat_any (o : Nat) (ho : o ≤ 7) (a : Int) (h1 : -1000000000000 ≤ a) (h2 : a ≤ 1000000000000) (w : World) : Calls Try.prog 57 #[.int .i64 o, .int .i64 a] w (NewRow (patL o a) w) := by
  have HLL := hidH (patL_length o a)
  have HM := hidH (Blk.made w 3 (o + 1))
  have hwo : wrap64 ((o : Int) + 1) = ((o + 1 : Nat) : Int) := by rw [wrap64_id _ (by omega) (by omega)]; omega
  have hmk := run_make_row' (P := Try.prog) 22 3 (.int .i64 0) 8 Try.underlying22 infoInt rfl .i64 .i64 (o + 1) (by omega) (by omega) w
  rw [show ((o + 1 : Nat) : Int) = (o : Int) + 1 by omega] at hmk
  go_enter Try.func57, Try.ntmps57
  go_wp2_with fail
  go_loopw [1, 12] (fun am i wr => ∃ (k : Nat) (m : Int), k ≤ o + 1 ∧ i = .int .i64 k ∧ am = .int .i64 m ∧ m = sg k * a ∧ Blk wr w.heap.size (fill (patL o a) k) ∧ Below w.heap.size w wr) (fun _ i _ => o + 1 - (intOf i).toNat)
  case atStart => exact ⟨0, a, Nat.zero_le _, rfl, rfl, by simp [sg], by have := HM.out; rw [fill_zero, HLL.out]; exact this, (Below.refl _ _).alloc (Nat.le_refl _) _⟩
  case round =>
    obtain ⟨k, m, hk, rfl, rfl, hm, hblk, hb⟩ := hrel
    have HBK := hidH hblk
    have HBq := hidH hb
    clear hblk hb
    by_cases hlt : k < o + 1
    · obtain ⟨ho1, hf⟩ := HBK.out.2 k 0 (fill_at _ _ (by rw [HLL.out]; exact hlt))
      have hma : -1000000000000 ≤ m ∧ m ≤ 1000000000000 := by rcases sg_abs k with e | e <;> rw [hm, e] <;> omega
      have HNM := hidH (show -m = sg (k + 1) * a by rw [sg_succ, hm, Int.neg_mul])
      have ⟨b1, b2⟩ := chN_small o (by omega) k (by omega)
      have HG := hidH (fillp_set o a m _ k (by omega) hm rfl)
      have HC := hidH (binom7_any o ho k (by omega) wr)
      have hab := abs_mul_le (a := m) (b := chN (o : Nat) k) (A := 1000000000000) (B := 35) (by omega) (by omega)
      have hp1 : -35000000000000 ≤ m * chN (o : Nat) k := by omega
      have hp2 : m * chN (o : Nat) k ≤ 35000000000000 := by omega
      clear hab hm
      generalize chN (o : Nat) k = c at *
      go_wp2_with fail
      refine HC.out.mono ?_; rintro e w2 ⟨rfl, rfl⟩
      have HST := hidH (HBK.out.set k (m * c))
      go_wp2_with fail
      go_roundw
      case rel => exact ⟨k + 1, -m, by omega, by go_num, by go_num, HNM.out, by rw [← HG.out]; exact HST.out, HBq.out.setCell (Nat.le_refl _) _⟩
      case measure => simp [intOf]; omega
    · obtain rfl : k = o + 1 := by omega
      go_wp2_with fail
      go_ret
      have h := HBK.out
      have e := fill_all (patL o a)
      rw [HLL.out] at e
      rw [e] at h
      exact ⟨_, rfl, h.row (Nat.le_refl _) h.1 (by rw [HLL.out]; exact Nat.le_refl _) (by unfold maxLen; omega) HLL.out.symm, HBq.out⟩
theorem sAmt4_any (a : Int) (w : World) : Calls Try.prog 58 #[.int .i64 a] w fun e w' => e = .returned (.bool (inB 1000000000 a)) ∧ w = w' := by
  go_enter Try.func58, Try.ntmps58
  go_wp2_with (go_at_call 46; refine (sIn_any _ _ _ (inB 1000000000 a) rfl _).mono ?_; rintro e w' ⟨rfl, rfl⟩)
  go_ret
  exact ⟨rfl, rfl⟩
end Go.Proofs.Ytiehkjidcnnncaa
