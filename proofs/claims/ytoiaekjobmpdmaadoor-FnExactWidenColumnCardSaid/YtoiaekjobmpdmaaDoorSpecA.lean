/-
  The walks of the model's plain parts: widths, powers of ten, whether a column can stand for a number, the column that shows a number, and WidthFor on both sides. Conditions: a width between 1 and 12 where a contract says so.
-/
import Derived.Test.YtoiaekjobmpdmaaDoorCols
namespace Go.Proofs.YtoiaekjobmpdmaaDoor
open Go.RowKit
theorem sIn_any (n a b : Int) (r : Bool) (h : decide (a ≤ n ∧ n ≤ b) = r) (w : World) : Calls Tryd.prog 35 #[.int .i64 n, .int .i64 a, .int .i64 b] w fun e w' => e = .returned (.bool r) ∧ w = w' := by
  subst h
  by_cases h1 : a ≤ n
  · by_cases h2 : n ≤ b
    · have e : decide (a ≤ n ∧ n ≤ b) = true := decide_eq_true ⟨h1, h2⟩
      rw [e]
      go_enter Tryd.func35, Tryd.ntmps35
      go_wp2
      go_ret
      exact ⟨rfl, rfl⟩
    · have e : decide (a ≤ n ∧ n ≤ b) = false := decide_eq_false (fun h => h2 h.2)
      have e2 : decide (n ≤ b) = false := decide_eq_false h2
      rw [e]
      clear e
      go_enter Tryd.func35, Tryd.ntmps35
      go_wp2
      go_ret
      exact ⟨rfl, rfl⟩
  · have e : decide (a ≤ n ∧ n ≤ b) = false := decide_eq_false (fun h => h1 h.1)
    have e2 : decide (a ≤ n) = false := decide_eq_false h1
    rw [e]
    clear e
    go_enter Tryd.func35, Tryd.ntmps35
    go_wp2
    go_ret
    exact ⟨rfl, rfl⟩
theorem sWidth_any (n : Int) (r : Bool) (h : decide (1 ≤ n ∧ n ≤ 12) = r) (w : World) : Calls Tryd.prog 24 #[.int .i64 n] w fun e w' => e = .returned (.bool r) ∧ w = w' := by
  have H : Hid (decide (1 ≤ n ∧ n ≤ 12) = r) := h
  clear h
  go_enter Tryd.func24, Tryd.ntmps24
  go_wp2_with (go_at_call 35; refine (sIn_any _ _ _ r H.out _).mono ?_; rintro e w' ⟨rfl, rfl⟩)
  go_ret
  exact ⟨rfl, rfl⟩
theorem sTen_any (n : Nat) (hn : n ≤ 12) (w : World) : Calls Tryd.prog 43 #[.int .i64 n] w fun e w' => e = .returned (.int .i64 (tenP n)) ∧ w = w' := by
  go_enter Tryd.func43, Tryd.ntmps43
  go_wp2
  go_loop [3, 4] (fun p i => ∃ k : Nat, k ≤ n ∧ i = .int .i64 k ∧ p = .int .i64 (tenP k)) (fun _ i => n - (intOf i).toNat)
  case atStart => exact ⟨0, Nat.zero_le _, rfl, rfl⟩
  case round =>
    obtain ⟨k, hk, rfl, rfl⟩ := hrel
    have hp := tenP_pos k
    have hq := tenP_12 k (by omega)
    by_cases hlt : k < n
    · go_wp2
      go_round
      case rel => exact ⟨k + 1, by omega, by go_num, by rw [tenP, Int.mul_comm]⟩
      case measure => simp [intOf]; omega
    · go_wp2
      obtain rfl : k = n := by omega
      go_ret
      exact ⟨rfl, rfl⟩
theorem fits_iff (n : Int) (w : Nat) : fits n w = true ↔ -(tenP w / 2) ≤ n ∧ n < tenP w / 2 := by
  unfold fits
  rw [Bool.and_eq_true, decide_eq_true_eq, decide_eq_true_eq]
theorem sFits_any (n : Int) (wd : Nat) (r : Bool) (h : fits n wd = r) (h1 : 1 ≤ wd) (h2 : wd ≤ 12) (w : World) : Calls Tryd.prog 44 #[.int .i64 n, .int .i64 wd] w fun e w' => e = .returned (.bool r) ∧ w = w' := by
  have ⟨hev, h5⟩ := tenP_even wd h1
  have HE : Hid (tenP wd = 2 * (tenP wd / 2)) := hev
  clear hev
  have hq := tenP_12 wd h2
  have hp := tenP_pos wd
  subst h
  by_cases g1 : -(tenP wd / 2) ≤ n
  · by_cases g2 : n < tenP wd / 2
    · rw [(fits_iff n wd).2 ⟨g1, g2⟩]
      go_enter Tryd.func44, Tryd.ntmps44
      go_wp2_with (go_at_call 43; refine (sTen_any _ h2 _).mono ?_; rintro e w' ⟨rfl, rfl⟩)
      go_ret
      exact ⟨rfl, rfl⟩
    · rw [show fits n wd = false from by rw [← Bool.not_eq_true, fits_iff]; exact fun h => g2 h.2]
      have e2 : decide (n < tenP wd / 2) = false := decide_eq_false g2
      go_enter Tryd.func44, Tryd.ntmps44
      go_wp2_with (go_at_call 43; refine (sTen_any _ h2 _).mono ?_; rintro e w' ⟨rfl, rfl⟩)
      go_ret
      exact ⟨rfl, rfl⟩
  · rw [show fits n wd = false from by rw [← Bool.not_eq_true, fits_iff]; exact fun h => g1 h.1]
    have e2 : decide (-(tenP wd / 2) ≤ n) = false := decide_eq_false g1
    go_enter Tryd.func44, Tryd.ntmps44
    go_wp2_with (go_at_call 43; refine (sTen_any _ h2 _).mono ?_; rintro e w' ⟨rfl, rfl⟩)
    go_ret
    exact ⟨rfl, rfl⟩
end Go.Proofs.YtoiaekjobmpdmaaDoor
