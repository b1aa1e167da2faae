/-
  cmp.Or of two numbers. No conditions.
-/
import Derived.Test.YtlicihjjbojpcaaErrI
namespace Go.Proofs.Ytlicihjjbojpcaa
set_option maxRecDepth 4000
open Go.RowKit
set_option maxHeartbeats 800000 in
theorem or_any (v : Value) (x y : Int) (w : World) (lo hi : Nat) (hv : Lies w lo hi v [x, y]) : Calls Try.prog 78 #[v] w fun e w' => e = .returned (.int .i64 (orI x y)) ∧ w = w' := by
  obtain ⟨b, off, cap, rfl, hlc, hcm, _, _, _, hcell⟩ := hv.addr (by simp)
  have hc0 := hcell 0 x rfl
  have hc1 := hcell 1 y rfl
  unfold maxLen at hcm
  rw [Nat.add_zero] at hc0
  change 2 ≤ cap at hlc
  change Calls Try.prog 78 #[.slice (some ⟨b, off, none⟩) 2 cap] w _
  clear hv hcell
  go_enter Try.func78, Try.ntmps78
  go_wp2_with fail
  go_loopw [8] (fun i wr => ∃ k : Nat, k ≤ 2 ∧ i = .int .i64 k ∧ (1 ≤ k → x = 0) ∧ (k = 2 → y = 0) ∧ w = wr) (fun i _ => 2 - (intOf i).toNat)
  case atStart => exact ⟨0, by omega, rfl, fun h => by omega, fun h => by omega, rfl⟩
  case round =>
    obtain ⟨k, hk, rfl, hx, hy, rfl⟩ := hrel
    have HX := hidH hx
    have HY := hidH hy
    clear hx hy
    rcases (show k = 0 ∨ k = 1 ∨ k = 2 by omega) with rfl | rfl | rfl
    · clear hk
      by_cases h0 : x = 0
      · have hb : (x != 0) = false := by rw [h0]; rfl
        have H0 := hidH h0
        clear h0
        go_wp2_with fail
        go_roundw
        case rel => exact ⟨1, by omega, rfl, by intro _; exact H0.out, by intro h; omega, by first | rfl | trivial⟩
        case measure => simp [intOf]
      · have hb : (x != 0) = true := bne_iff_ne.2 h0
        have hb2 : (x == 0) = false := beq_eq_false_iff_ne.2 h0
        have HE := hidH (show orI x y = x by rw [orI, if_neg h0])
        clear h0
        go_wp2_with fail
        go_ret
        exact ⟨by rw [HE.out]; rfl, rfl⟩
    · clear hk
      by_cases h1 : y = 0
      · have hb : (y != 0) = false := by rw [h1]; rfl
        have H1 := hidH h1
        clear h1
        go_wp2_with fail
        go_roundw
        case rel => exact ⟨2, by omega, rfl, by intro _; exact HX.out (by omega), by intro _; exact H1.out, by first | rfl | trivial⟩
        case measure => simp [intOf]
      · have hb : (y != 0) = true := bne_iff_ne.2 h1
        have hb2 : (y == 0) = false := beq_eq_false_iff_ne.2 h1
        have HE := hidH (show orI x y = y by rw [orI, if_pos (HX.out (by omega))])
        clear h1
        go_wp2_with fail
        go_ret
        exact ⟨by rw [HE.out]; rfl, rfl⟩
    · have HE := hidH (show orI x y = 0 by rw [orI, if_pos (HX.out (by omega))]; exact HY.out rfl)
      clear hk
      go_wp2_with fail
      go_ret
      exact ⟨by rw [HE.out]; rfl, rfl⟩
end Go.Proofs.Ytlicihjjbojpcaa
