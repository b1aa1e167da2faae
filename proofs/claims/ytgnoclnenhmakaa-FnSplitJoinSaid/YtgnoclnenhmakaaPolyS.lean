/-
  The walks of the model's binomial coefficients and values of polynomials. Conditions: arguments between -300 and 300 where a contract says so.
-/
import Derived.Test.YtgnoclnenhmakaaIn
import Derived.Test.YtgnoclnenhmakaaSl
import Derived.Test.YtgnoclnenhmakaaPolyMath
import Derived.BigQuiet
namespace Go.Proofs.Ytgnoclnenhmakaa
set_option maxRecDepth 4000
open Go.RowKit
theorem sArg_any (n : Int) (r : Bool) (h : decide (-200 ≤ n ∧ n ≤ 200) = r) (w : World) : Calls Try.prog 101 #[.int .i64 n] w fun e w' => e = .returned (.bool r) ∧ w = w' := by
  have H := hidH h
  clear h
  go_enter Try.func101, Try.ntmps101
  go_wp2_with (go_at_call 60; refine (sIn_any _ _ _ r H.out _).mono ?_; rintro e w' ⟨rfl, rfl⟩)
  go_ret
  exact ⟨rfl, rfl⟩
theorem sChoose_any (n : Int) (h1 : -300 ≤ n) (h2 : n ≤ 300) (k : Nat) (hk : k ≤ 6) (w : World) : Calls Try.prog 103 #[.int .i64 n, .int .i64 k] w fun e w' => e = .returned (.int .i64 (chN n k)) ∧ w = w' := by
  go_enter Try.func103, Try.ntmps103
  go_wp2
  go_loop [5, 6] (fun o i => ∃ j : Nat, j ≤ k ∧ i = .int .i64 j ∧ o = .int .i64 (chN n j)) (fun _ i => k - (intOf i).toNat)
  case atStart => exact ⟨0, Nat.zero_le _, rfl, rfl⟩
  case round =>
    obtain ⟨j, hj, rfl, rfl⟩ := hrel
    by_cases hlt : j < k
    · have ⟨b1, b2⟩ := chN_mul_bd n h1 h2 j (by omega)
      have ⟨b3, b4⟩ := chN_bd n h1 h2 j (by omega)
      have ⟨b5, b6⟩ := chN_bd n h1 h2 (j + 1) (by omega)
      go_wp2
      go_round
      case rel => exact ⟨j + 1, by omega, by go_num, by rw [chN]⟩
      case measure => simp [intOf]; omega
    · go_wp2
      obtain rfl : j = k := by omega
      go_ret
      exact ⟨rfl, rfl⟩
theorem sChoose_same (n : Int) (h1 : -300 ≤ n) (h2 : n ≤ 300) (k : Nat) (hk : k ≤ 6) (w : World) : Calls Try.prog 103 #[.int .i64 n, .int .i64 k] w fun e w' => e = .returned (.int .i64 (chN n k)) ∧ w' = w :=
  (sChoose_any n h1 h2 k hk w).mono fun _ _ ⟨a, b⟩ => ⟨a, b.symm⟩
end Go.Proofs.Ytgnoclnenhmakaa
