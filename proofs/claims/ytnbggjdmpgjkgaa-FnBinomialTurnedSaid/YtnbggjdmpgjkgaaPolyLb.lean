/-
  The walk of a law: the coefficients of negative arguments are those of others with alternating signs. No conditions but that the bytes that came in can be read.
-/
import Derived.Test.YtnbggjdmpgjkgaaPolyLa
namespace Go.Proofs.Ytnbggjdmpgjkgaa
open Go.RowKit
theorem ff_turn (n : Int) (k : Nat) : ff ((k : Int) - n - 1) k = (if k % 2 = 0 then 1 else -1) * ff n k := by
  induction k with
  | zero => simp [ff]
  | succ k ih =>
    rw [show ((k + 1 : Nat) : Int) - n - 1 = ((k : Int) - n - 1) + 1 by omega, ff_head, ih, ff]
    by_cases h : k % 2 = 0
    · rw [if_pos h, if_neg (by omega)]
      rw [show (k : Int) - n - 1 + 1 = -(n - k) by omega, Int.one_mul, Int.neg_mul, Int.neg_mul, Int.one_mul, Int.mul_comm]
    · rw [if_neg h, if_pos (by omega)]
      rw [show (k : Int) - n - 1 + 1 = -(n - k) by omega, Int.one_mul, Int.neg_mul, Int.neg_mul, Int.mul_neg, Int.neg_neg, Int.one_mul, Int.mul_comm]
theorem turned_at (n k : Int) (k0 : 0 ≤ k) : (k % 2 = 0 → chN n k.toNat = chN (k - n - 1) k.toNat) ∧ (k % 2 = 1 → chN n k.toNat = -chN (k - n - 1) k.toNat) := by
  obtain ⟨j, rfl⟩ := Int.eq_ofNat_of_zero_le k0
  rw [Int.toNat_natCast]
  have h := ff_turn n j
  have e1 := (chN_ff n j).1
  have e2 := (chN_ff ((j : Int) - n - 1) j).1
  have hp := fac_pos j
  constructor
  · intro hk
    rw [if_pos (by omega), Int.one_mul] at h
    exact Int.eq_of_mul_eq_mul_right (a := fac j) (by omega) (by rw [e1, e2, h])
  · intro hk
    rw [if_neg (by omega)] at h
    refine Int.eq_of_mul_eq_mul_right (a := fac j) (by omega) ?_
    rw [Int.neg_mul, e1, e2, h, Int.neg_mul, Int.one_mul, Int.neg_neg]
set_option maxHeartbeats 1000000 in
theorem lawBinomialTurned (a : Option Addr) (len cap : Nat) (w : World) (hc : Came w a len cap) : Calls Try.prog 4 #[.slice a len cap] w (Gives (.bool true) w) := by
  have hcap := hc.lenLe
  have hcap2 := hc.capLe
  unfold maxLen at hcap2
  by_cases hbig : 1048576 < len
  · clear hc
    go_enter Try.func4, Try.ntmps4
    go_wp2
    go_ret
    exact ⟨rfl, Below.refl _ _⟩
  · have HD := hidH (drawBinomial a len cap w hc (by omega))
    clear hc
    go_enter Try.func4, Try.ntmps4
    go_wp2_with fail
    refine HD.out.mono ?_
    rintro e w1 ⟨n, k, rfl, hB⟩
    have B1 := hidH hB
    clear hB HD
    rcases bin_ways n k with ⟨n1, n2, k0, k6⟩ | h
    · by_cases hn : 0 ≤ n
      · go_wp2_with fail
        refine (bin_yes n k n1 n2 k0 k6 w1).mono ?_; rintro e w2 ⟨rfl, rfl⟩
        go_wp2_with fail
        refine (sBin_yes n k n1 n2 k0 k6 w1).mono ?_; rintro e w2 ⟨rfl, rfl⟩
        generalize chN n k.toNat = v at *
        go_wp2_with fail
        go_ret
        exact ⟨rfl, B1.out⟩
      · by_cases hx : 200 < k - n - 1
        · go_wp2_with fail
          refine (bin_yes n k n1 n2 k0 k6 w1).mono ?_; rintro e w2 ⟨rfl, rfl⟩
          go_wp2_with fail
          refine (sBin_yes n k n1 n2 k0 k6 w1).mono ?_; rintro e w2 ⟨rfl, rfl⟩
          generalize chN n k.toNat = v at *
          go_wp2_with fail
          go_ret
          exact ⟨rfl, B1.out⟩
        · have ⟨T1, T2⟩ := turned_at n k k0
          have HT1 := hidH T1
          have HT2 := hidH T2
          have ⟨c1, c2⟩ := chN_bd (k - n - 1) (by omega) (by omega) k.toNat (by omega)
          clear T1 T2
          go_wp2_with fail
          refine (bin_yes n k n1 n2 k0 k6 w1).mono ?_; rintro e w2 ⟨rfl, rfl⟩
          go_wp2_with fail
          refine (sBin_yes n k n1 n2 k0 k6 w1).mono ?_; rintro e w2 ⟨rfl, rfl⟩
          generalize chN n k.toNat = v at *
          go_wp2_with fail
          refine (bin_yes (k - n - 1) k (by omega) (by omega) k0 k6 w1).mono ?_; rintro e w2 ⟨rfl, rfl⟩
          generalize chN (k - n - 1) k.toNat = x at *
          have hpar : k % 2 = 0 ∨ k % 2 = 1 := by omega
          rcases hpar with hp | hp
          · have e1 : (k % 2 == 0) = true := beq_iff_eq.2 hp
            have e2 : (v == x) = true := beq_iff_eq.2 (HT1.out hp)
            clear hp
            go_wp2_with fail
            go_ret
            exact ⟨rfl, B1.out⟩
          · have e1 : (k % 2 == 0) = false := beq_eq_false_iff_ne.2 (by omega)
            have e2 : (v == -x) = true := beq_iff_eq.2 (HT2.out hp)
            have e3 : (k % 2 == 1) = true := beq_iff_eq.2 hp
            clear hp
            go_wp2_with fail
            go_ret
            exact ⟨rfl, B1.out⟩
    · have HI := hidH (binomial_no n k h)
      have HS := hidH (sBinomial_no n k h)
      clear h
      go_wp2_with fail
      refine (HI.out w1).mono ?_; rintro e w2 ⟨rfl, rfl⟩
      go_wp2_with fail
      refine (HS.out w1).mono ?_; rintro e w2 ⟨rfl, rfl⟩
      go_wp2_with fail
      go_ret
      exact ⟨rfl, B1.out⟩
end Go.Proofs.Ytnbggjdmpgjkgaa
