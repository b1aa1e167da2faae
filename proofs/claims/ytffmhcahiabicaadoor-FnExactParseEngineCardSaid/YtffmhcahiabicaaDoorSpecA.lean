/-
  The walks of the model's plain parts: widths, powers of ten, whether a column can stand for a number, the column that shows a number, and WidthFor on both sides. Conditions: a width between 1 and 12 where a contract says so.
-/
import Derived.Test.YtffmhcahiabicaaDoorCols
import Derived.Test.YtffmhcahiabicaaDoorIn
namespace Go.Proofs.YtffmhcahiabicaaDoor
set_option maxRecDepth 4000
open Go.RowKit
theorem sWidth_any (n : Int) (r : Bool) (h : decide (1 ≤ n ∧ n ≤ 12) = r) (w : World) : Calls Tryd.prog 65 #[.int .i64 n] w fun e w' => e = .returned (.bool r) ∧ w = w' := by
  have H : Hid (decide (1 ≤ n ∧ n ≤ 12) = r) := h
  clear h
  go_enter Tryd.func65, Tryd.ntmps65
  go_wp2_with (go_at_call 81; refine (sIn_any _ _ _ r H.out _).mono ?_; rintro e w' ⟨rfl, rfl⟩)
  go_ret
  exact ⟨rfl, rfl⟩
theorem sTen_any (n : Nat) (hn : n ≤ 12) (w : World) : Calls Tryd.prog 109 #[.int .i64 n] w fun e w' => e = .returned (.int .i64 (tenP n)) ∧ w = w' := by
  go_enter Tryd.func109, Tryd.ntmps109
  go_wp2
  go_loop [3, 4] (fun p i => ∃ k : Nat, k ≤ n ∧ i = .int .i64 k ∧ p = .int .i64 (tenP k)) (fun _ i => n - (intOf i).toNat)
  case atStart => exact ⟨0, Nat.zero_le _, rfl, rfl⟩
  case round =>
    obtain ⟨k, hk, rfl, rfl⟩ := hrel
    have hp := tenP_pos k
    have hq := tenP_12 k (by omega)
    by_cases hlt : k < n
    · go_wp2
      go_round
      case rel => exact ⟨k + 1, by omega, by go_num, by rw [tenP, Int.mul_comm]⟩
      case measure => simp [intOf]; omega
    · go_wp2
      obtain rfl : k = n := by omega
      go_ret
      exact ⟨rfl, rfl⟩
theorem fits_iff (n : Int) (w : Nat) : fits n w = true ↔ -(tenP w / 2) ≤ n ∧ n < tenP w / 2 := by
  unfold fits
  rw [Bool.and_eq_true, decide_eq_true_eq, decide_eq_true_eq]
end Go.Proofs.YtffmhcahiabicaaDoor
