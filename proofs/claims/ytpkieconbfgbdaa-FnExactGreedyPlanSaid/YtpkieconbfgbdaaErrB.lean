/-
  ErrorPattern: the program and the model, at every argument. No conditions.
-/
import Derived.Test.YtpkieconbfgbdaaErrA
namespace Go.Proofs.Ytpkieconbfgbdaa
set_option maxRecDepth 4000
open Go.RowKit
theorem binom7_any (o : Nat) (ho : o ≤ 7) (k : Nat) (hk : k ≤ 8) (w : World) : Calls Try.prog 97 #[.int .i64 o, .int .i64 k] w fun e w' => e = .returned (.int .i64 (chN (o : Nat) k)) ∧ w = w' := by
  go_enter Try.func97, Try.ntmps97
  go_wp2
  go_loop [5, 8] (fun p i => ∃ j : Nat, j ≤ k ∧ i = .int .i64 j ∧ p = .int .i64 (chN (o : Nat) j)) (fun _ i => k - (intOf i).toNat)
  case atStart => exact ⟨0, Nat.zero_le _, rfl, rfl⟩
  case round =>
    obtain ⟨j, hj, rfl, rfl⟩ := hrel
    by_cases hlt : j < k
    · have ⟨b1, b2⟩ := chN_small_mul o (by omega) j (by omega)
      have ⟨b3, b4⟩ := chN_small o (by omega) j (by omega)
      have ⟨b5, b6⟩ := chN_small o (by omega) (j + 1) (by omega)
      go_wp2
      go_round
      case rel => exact ⟨j + 1, by omega, by go_num, by rw [chN]⟩
      case measure => simp [intOf]; omega
    · go_wp2
      obtain rfl : j = k := by omega
      go_ret
      exact ⟨rfl, rfl⟩
theorem sChoose7_any (o : Nat) (ho : o ≤ 7) (k : Nat) (hk : k ≤ 8) (w : World) : Calls Try.prog 100 #[.int .i64 o, .int .i64 k] w fun e w' => e = .returned (.int .i64 (chN (o : Nat) k)) ∧ w = w' := by
  go_enter Try.func100, Try.ntmps100
  go_wp2
  go_loop [5, 6] (fun p i => ∃ j : Nat, j ≤ k ∧ i = .int .i64 j ∧ p = .int .i64 (chN (o : Nat) j)) (fun _ i => k - (intOf i).toNat)
  case atStart => exact ⟨0, Nat.zero_le _, rfl, rfl⟩
  case round =>
    obtain ⟨j, hj, rfl, rfl⟩ := hrel
    by_cases hlt : j < k
    · have ⟨b1, b2⟩ := chN_small_mul o (by omega) j (by omega)
      have ⟨b3, b4⟩ := chN_small o (by omega) j (by omega)
      have ⟨b5, b6⟩ := chN_small o (by omega) (j + 1) (by omega)
      go_wp2
      go_round
      case rel => exact ⟨j + 1, by omega, by go_num, by rw [chN]⟩
      case measure => simp [intOf]; omega
    · go_wp2
      obtain rfl : j = k := by omega
      go_ret
      exact ⟨rfl, rfl⟩
theorem fillp_set (o : Nat) (a m c : Int) (k : Nat) (hk : k ≤ o) (hm : m = sg k * a) (hc : c = chN (o : Nat) k) : (fill (patL o a) k).set k (m * c) = fill (patL o a) (k + 1) := by
  subst hm; subst hc
  exact fill_set _ k _ (by rw [patL_get o a k hk, Int.mul_assoc, Int.mul_assoc, Int.mul_comm a])
end Go.Proofs.Ytpkieconbfgbdaa
