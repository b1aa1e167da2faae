/-
  The walks of the model's plain parts: widths, powers of ten, whether a column can stand for a number, the column that shows a number, and WidthFor on both sides. Conditions: a width between 1 and 12 where a contract says so.
  The walk of the model's column that shows a number. Condition: a width up to 12.
-/
import Derived.Test.YtnndeiiolnefkaaCols
import Derived.Test.YtnndeiiolnefkaaIn
import Derived.BigQuiet
namespace Go.Proofs.Ytnndeiiolnefkaa
set_option maxRecDepth 4000
open Go.RowKit
theorem sTen_any (n : Nat) (hn : n ≤ 12) (w : World) : Calls Try.prog 42 #[.int .i64 n] w fun e w' => e = .returned (.int .i64 (tenP n)) ∧ w = w' := by
  go_enter Try.func42, Try.ntmps42
  go_wp2
  go_loop [3, 4] (fun p i => ∃ k : Nat, k ≤ n ∧ i = .int .i64 k ∧ p = .int .i64 (tenP k)) (fun _ i => n - (intOf i).toNat)
  case atStart => exact ⟨0, Nat.zero_le _, rfl, rfl⟩
  case round =>
    obtain ⟨k, hk, rfl, rfl⟩ := hrel
    have hp := tenP_pos k
    have hq := tenP_12 k (by omega)
    by_cases hlt : k < n
    · go_wp2
      go_round
      case rel => exact ⟨k + 1, by omega, by go_num, by rw [tenP, Int.mul_comm]⟩
      case measure => simp [intOf]; omega
    · go_wp2
      obtain rfl : k = n := by omega
      go_ret
      exact ⟨rfl, rfl⟩
theorem fits_iff (n : Int) (w : Nat) : fits n w = true ↔ -(tenP w / 2) ≤ n ∧ n < tenP w / 2 := by
  unfold fits
  rw [Bool.and_eq_true, decide_eq_true_eq, decide_eq_true_eq]
end Go.Proofs.Ytnndeiiolnefkaa
namespace Go.Proofs.Ytnndeiiolnefkaa
set_option maxRecDepth 4000
open Go.RowKit
theorem sTen_same (n : Nat) (hn : n ≤ 12) (w : World) : Calls Try.prog 42 #[.int .i64 n] w fun e w' => e = .returned (.int .i64 (tenP n)) ∧ w' = w :=
  (sTen_any n hn w).mono fun _ _ ⟨a, b⟩ => ⟨a, b.symm⟩
theorem tmod_bd (n t : Int) (h : 0 < t) : -t < n.tmod t ∧ n.tmod t < t := ⟨Int.lt_tmod_of_pos n h, Int.tmod_lt_of_pos n h⟩
theorem tmod_mod (n t : Int) : (n.tmod t + t) % t = n % t := by
  rw [Int.add_emod_right, Int.tmod_def]
  rw [Int.sub_mul_emod_self_left]
end Go.Proofs.Ytnndeiiolnefkaa
