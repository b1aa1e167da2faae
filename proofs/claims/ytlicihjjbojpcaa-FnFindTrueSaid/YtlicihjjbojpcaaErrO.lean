/-
  The greatest common divisor: the program. No conditions but bounds of numbers.
-/
import Derived.Test.YtlicihjjbojpcaaErrI
namespace Go.Proofs.Ytlicihjjbojpcaa
set_option maxRecDepth 4000
open Go.RowKit
theorem gcd_step (x y : Int) : Int.gcd y (x.tmod y) = Int.gcd x y := by
  rw [Int.gcd, Int.gcd, Int.natAbs_tmod, Nat.gcd_comm, ← Nat.gcd_rec, Nat.gcd_comm]
set_option maxHeartbeats 800000 in
theorem gcd_any (x y : Int) (hx : x.natAbs ≤ 1000000000000) (hy : y.natAbs ≤ 1000000000000) (w : World) : Calls Try.prog 77 #[.int .i64 x, .int .i64 y] w fun e w' => e = .returned (.int .i64 (Int.gcd x y : Nat)) ∧ ∃ q, w' = w.drewN q := by
  go_enter Try.func77, Try.ntmps77
  go_wp2_with fail
  go_loopw [0, 1] (fun a b wr => ∃ (s t : Int) (q : Nat), a = .int .i64 s ∧ b = .int .i64 t ∧ Int.gcd s t = Int.gcd x y ∧ s.natAbs ≤ 1000000000000 ∧ t.natAbs ≤ 1000000000000 ∧ wr = w.drewN q) (fun _ b _ => (intOf b).natAbs)
  case atStart => exact ⟨x, y, 0, rfl, rfl, rfl, hx, hy, rfl⟩
  case round =>
    obtain ⟨s, t, q, rfl, rfl, hg, hs, ht, rfl⟩ := hrel
    have HG := hidH hg
    clear hg hx hy
    by_cases h0 : t = 0
    · subst h0
      have HE := hidH (show s.natAbs = Int.gcd x y by rw [← HG.out, Int.gcd_zero_right])
      clear ht
      by_cases hneg : s < 0
      · have hn : ((s.natAbs : Nat) : Int) = -s := by omega
        have hlt : s < -s := by omega
        have HN := hidH hn
        clear hn
        go_wp2_with fail
        go_ret
        exact ⟨by rw [← HE.out, HN.out]; go_num, q, rfl⟩
      · have hn : ((s.natAbs : Nat) : Int) = s := by omega
        have hlt : ¬ s < -s := by omega
        have HN := hidH hn
        clear hn
        go_wp2_with fail
        go_ret
        exact ⟨by rw [← HE.out, HN.out]; go_num, q, rfl⟩
    · have h0b : (t != 0) = true := bne_iff_ne.2 h0
      have h0c : (t == 0) = false := beq_eq_false_iff_ne.2 h0
      have hr : (s.tmod t).natAbs < t.natAbs := by rw [Int.natAbs_tmod]; exact Nat.mod_lt _ (by omega)
      have HR := hidH hr
      have HS := hidH (gcd_step s t)
      have hr1 : -1000000000000 ≤ s.tmod t := by omega
      have hr2 : s.tmod t ≤ 1000000000000 := by omega
      clear hr
      go_wp2_with fail
      go_quiet (fail)
      go_wp2_with fail
      go_roundw
      case rel => exact ⟨t, s.tmod t, _, rfl, by go_num, HS.out.trans HG.out, ht, by omega, by first | rfl | exact drewN_add4 _ _ _⟩
      case measure => have := HR.out; simpa [intOf] using this
end Go.Proofs.Ytlicihjjbojpcaa
