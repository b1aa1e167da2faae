/-
  The walks of the model's plain parts: widths, powers of ten, whether a column can stand for a number, the column that shows a number, and WidthFor on both sides. Conditions: a width between 1 and 12 where a contract says so.
  The walk of the model's column that shows a number. Condition: a width up to 12.
-/
import Derived.Test.YtcinhmfjnjecdaaCols
import Derived.Test.YtcinhmfjnjecdaaIn
import Derived.BigQuiet
namespace Go.Proofs.Ytcinhmfjnjecdaa
set_option maxRecDepth 4000
open Go.RowKit
theorem sWidth_any (n : Int) (r : Bool) (h : decide (1 ≤ n ∧ n ≤ 12) = r) (w : World) : Calls Try.prog 81 #[.int .i64 n] w fun e w' => e = .returned (.bool r) ∧ w = w' := by
  have H : Hid (decide (1 ≤ n ∧ n ≤ 12) = r) := h
  clear h
  go_enter Try.func81, Try.ntmps81
  go_wp2_with (go_at_call 36; refine (sIn_any _ _ _ r H.out _).mono ?_; rintro e w' ⟨rfl, rfl⟩)
  go_ret
  exact ⟨rfl, rfl⟩
theorem sTen_any (n : Nat) (hn : n ≤ 12) (w : World) : Calls Try.prog 96 #[.int .i64 n] w fun e w' => e = .returned (.int .i64 (tenP n)) ∧ w = w' := by
  go_enter Try.func96, Try.ntmps96
  go_wp2
  go_loop [3, 4] (fun p i => ∃ k : Nat, k ≤ n ∧ i = .int .i64 k ∧ p = .int .i64 (tenP k)) (fun _ i => n - (intOf i).toNat)
  case atStart => exact ⟨0, Nat.zero_le _, rfl, rfl⟩
  case round =>
    obtain ⟨k, hk, rfl, rfl⟩ := hrel
    have hp := tenP_pos k
    have hq := tenP_12 k (by omega)
    by_cases hlt : k < n
    · go_wp2
      go_round
      case rel => exact ⟨k + 1, by omega, by go_num, by rw [tenP, Int.mul_comm]⟩
      case measure => simp [intOf]; omega
    · go_wp2
      obtain rfl : k = n := by omega
      go_ret
      exact ⟨rfl, rfl⟩
theorem fits_iff (n : Int) (w : Nat) : fits n w = true ↔ -(tenP w / 2) ≤ n ∧ n < tenP w / 2 := by
  unfold fits
  rw [Bool.and_eq_true, decide_eq_true_eq, decide_eq_true_eq]
end Go.Proofs.Ytcinhmfjnjecdaa
namespace Go.Proofs.Ytcinhmfjnjecdaa
set_option maxRecDepth 4000
open Go.RowKit
theorem sTen_same (n : Nat) (hn : n ≤ 12) (w : World) : Calls Try.prog 96 #[.int .i64 n] w fun e w' => e = .returned (.int .i64 (tenP n)) ∧ w' = w :=
  (sTen_any n hn w).mono fun _ _ ⟨a, b⟩ => ⟨a, b.symm⟩
theorem tmod_bd (n t : Int) (h : 0 < t) : -t < n.tmod t ∧ n.tmod t < t := ⟨Int.lt_tmod_of_pos n h, Int.tmod_lt_of_pos n h⟩
theorem tmod_mod (n t : Int) : (n.tmod t + t) % t = n % t := by
  rw [Int.add_emod_right, Int.tmod_def]
  rw [Int.sub_mul_emod_self_left]
set_option maxHeartbeats 400000 in
theorem sShow_any (n : Int) (wd : Nat) (hw : wd ≤ 12) (w : World) : Calls Try.prog 95 #[.int .i64 n, .int .i64 wd] w fun e w' => e = .returned (.string ⟨(showB n wd).toArray⟩) ∧ Below w.heap.size w w' := by
  have hp := tenP_pos wd
  have hq := tenP_12 wd (by omega)
  have ⟨ht1, ht2⟩ := tmod_bd n (tenP wd) hp
  have HM : Hid ((n.tmod (tenP wd) + tenP wd) % tenP wd = n % tenP wd) := tmod_mod n _
  have hwr : IntKind.i64.wrap (n.tmod (tenP wd) + tenP wd) = n.tmod (tenP wd) + tenP wd := IntWalk.i64_in _ (by omega)
  have h0 : 0 ≤ n.tmod (tenP wd) + tenP wd := by omega
  have hz : (tenP wd == 0) = false := beq_eq_false_iff_ne.2 (by omega)
  have hmk : ∀ q, (Instr.makeSlice 22 (.int .i64 wd) (.int .i64 wd)).run Try.prog (w.drewN q) = _ := fun q => run_make_row' (P := Try.prog) 22 5 (.int .u8 0) 1 Try.underlying22 info5 rfl .i64 .i64 wd (by omega) (by omega) (w.drewN q)
  go_enter Try.func95, Try.ntmps95
  go_wp2_with fail
  go_quiet ((go_at_call 96; exact Calls.quiet_of_same (sTen_same _ hw _)))
  go_wp2
  have hm0 := Int.emod_nonneg (n.tmod (tenP wd) + tenP wd) (Int.ne_of_gt hp)
  have hm1 := Int.emod_lt_of_pos (n.tmod (tenP wd) + tenP wd) hp
  clear hwr h0 hz hmk
  generalize (n.tmod (tenP wd) + tenP wd) % tenP wd = m at *
  clear ht1 ht2
  go_loopw [0, 6] (fun p i wr => ∃ k : Nat, k ≤ wd ∧ i = .int .i64 ((wd : Int) - 1 - k) ∧ p = .int .i64 (rst m k) ∧ wr = ((w.alloc (.cells (byteC (wd - k) (txt (shown m k))) 5)).drewN nq)) (fun _ i _ => (intOf i + 1).toNat)
  case atStart => exact ⟨0, Nat.zero_le _, by go_num, rfl, by rw [byteC_made]; rfl⟩
  case round =>
    obtain ⟨k, hk, rfl, rfl, rfl⟩ := hrel
    have hr := rst_bd m k hm0
    by_cases hlt : k < wd
    · obtain ⟨v, hv⟩ := byteC_at (wd - k) (txt (shown m k)) (wd - 1 - k) (by omega)
      go_wp2
      go_roundw
      case rel =>
        refine ⟨k + 1, by omega, by rw [show ((wd : Int) - 1 - k - 1) = (wd : Int) - 1 - ((k + 1 : Nat) : Int) from by omega], by rw [rst], ?_⟩
        rw [setCell_new, shown_snoc, txt_snoc]
        have e1 : wd - k = (wd - 1 - k) + 1 := by omega
        have e2 : wd - (k + 1) = wd - 1 - k := by omega
        rw [e1, e2, ← byteC_set, byte_of (rst m k % 10) (by omega)]
      case measure => simp [intOf]; omega
    · obtain rfl : k = wd := by omega
      have hcv := conv_back w nq (showB m k)
      rw [showB_length] at hcv
      rw [Nat.sub_self, show txt (shown m k) = showB m k from rfl]
      go_wp2
      go_ret
      exact ⟨by rw [HM.out, showB_mod]; rfl, below_drewN ((Below.refl _ _).alloc (Nat.le_refl _) _) _⟩
end Go.Proofs.Ytcinhmfjnjecdaa
