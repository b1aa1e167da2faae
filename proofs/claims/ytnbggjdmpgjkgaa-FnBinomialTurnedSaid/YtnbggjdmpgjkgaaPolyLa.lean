/-
  The walks of two laws: a binomial coefficient is the sum of two before it, and those of negative arguments are those of others with alternating signs. No conditions but that the bytes that came in can be read.
-/
import Derived.Test.YtnbggjdmpgjkgaaKitR
import Derived.Test.YtnbggjdmpgjkgaaPolyE
namespace Go.Proofs.Ytnbggjdmpgjkgaa
open Go.RowKit
theorem bin_yes (n k : Int) (h1 : -200 ≤ n) (h2 : n ≤ 200) (k0 : 0 ≤ k) (k6 : k ≤ 6) (w : World) : Calls Try.prog 12 #[.int .i64 n, .int .i64 k] w fun e w' => e = .returned (.tuple #[.int .i64 (chN n k.toNat), .bool true]) ∧ w = w' := by
  obtain ⟨j, rfl⟩ := Int.eq_ofNat_of_zero_le k0
  exact binomial_yes n j (decide_eq_true ⟨h1, h2⟩) (by omega) w
theorem sBin_yes (n k : Int) (h1 : -200 ≤ n) (h2 : n ≤ 200) (k0 : 0 ≤ k) (k6 : k ≤ 6) (w : World) : Calls Try.prog 13 #[.int .i64 n, .int .i64 k] w fun e w' => e = .returned (.tuple #[.int .i64 (chN n k.toNat), .bool true]) ∧ w = w' := by
  obtain ⟨j, rfl⟩ := Int.eq_ofNat_of_zero_le k0
  exact sBinomial_yes n j (decide_eq_true ⟨h1, h2⟩) (by omega) w
theorem bin_ways (n k : Int) : (-200 ≤ n ∧ n ≤ 200 ∧ 0 ≤ k ∧ k ≤ 6) ∨ (inB 200 n = false ∨ k < 0 ∨ 6 < k) := by
  by_cases h : -200 ≤ n ∧ n ≤ 200
  · omega
  · exact .inr (.inl (decide_eq_false h))
theorem pascal_at (n k : Int) (k1 : 1 ≤ k) : chN n k.toNat = chN (n - 1) (k - 1).toNat + chN (n - 1) k.toNat := by
  obtain ⟨j, rfl⟩ : ∃ j : Nat, k = j + 1 := ⟨(k - 1).toNat, by omega⟩
  have h := chN_pascal (n - 1) j
  rw [show n - 1 + 1 = n by omega] at h
  rw [show ((j : Int) + 1).toNat = j + 1 by omega, show ((j : Int) + 1 - 1).toNat = j by omega, h]
  omega
theorem low_at (n k : Int) (n0 : 0 ≤ n) (h : n < k) : chN n k.toNat = 0 := by
  obtain ⟨j, rfl⟩ := Int.eq_ofNat_of_zero_le n0
  exact chN_low j k.toNat (by omega)
set_option maxHeartbeats 1000000 in
theorem lawBinomialPascal (a : Option Addr) (len cap : Nat) (w : World) (hc : Came w a len cap) : Calls Try.prog 3 #[.slice a len cap] w (Gives (.bool true) w) := by
  have hcap := hc.lenLe
  have hcap2 := hc.capLe
  unfold maxLen at hcap2
  by_cases hbig : 1048576 < len
  · clear hc
    go_enter Try.func3, Try.ntmps3
    go_wp2
    go_ret
    exact ⟨rfl, Below.refl _ _⟩
  · have HD := hidH (drawBinomial a len cap w hc (by omega))
    clear hc
    go_enter Try.func3, Try.ntmps3
    go_wp2_with fail
    refine HD.out.mono ?_
    rintro e w1 ⟨n, k, rfl, hB⟩
    have B1 := hidH hB
    clear hB HD
    rcases bin_ways n k with ⟨n1, n2, k0, k6⟩ | h
    · by_cases hk : k = 0
      · subst hk
        go_wp2_with fail
        refine (bin_yes n 0 n1 n2 k0 k6 w1).mono ?_; rintro e w2 ⟨rfl, rfl⟩
        go_wp2_with fail
        refine (sBin_yes n 0 n1 n2 k0 k6 w1).mono ?_; rintro e w2 ⟨rfl, rfl⟩
        rw [show chN n (0 : Int).toNat = 1 from rfl]
        go_wp2_with fail
        go_ret
        exact ⟨rfl, B1.out⟩
      · have k1 : 1 ≤ k := by omega
        have hkb : (k == 0) = false := beq_eq_false_iff_ne.2 hk
        by_cases hn : n = -200
        · subst hn
          go_wp2_with fail
          refine (bin_yes (-200) k n1 n2 k0 k6 w1).mono ?_; rintro e w2 ⟨rfl, rfl⟩
          go_wp2_with fail
          refine (sBin_yes (-200) k n1 n2 k0 k6 w1).mono ?_; rintro e w2 ⟨rfl, rfl⟩
          generalize chN (-200) k.toNat = v at *
          go_wp2_with fail
          go_ret
          exact ⟨rfl, B1.out⟩
        · have hnb : (n == -200) = false := beq_eq_false_iff_ne.2 hn
          have HP := hidH (pascal_at n k k1)
          have ⟨c1, c2⟩ := chN_bd (n - 1) (by omega) (by omega) (k - 1).toNat (by omega)
          have ⟨c3, c4⟩ := chN_bd (n - 1) (by omega) (by omega) k.toNat (by omega)
          have HL := hidH (low_at n k)
          have n3 : -199 ≤ n := by omega
          clear hk hn
          go_wp2_with fail
          refine (bin_yes n k n1 n2 k0 k6 w1).mono ?_; rintro e w2 ⟨rfl, rfl⟩
          go_wp2_with fail
          refine (sBin_yes n k n1 n2 k0 k6 w1).mono ?_; rintro e w2 ⟨rfl, rfl⟩
          generalize hv : chN n k.toNat = v at *
          have HV := hidH hv
          clear hv
          go_wp2_with fail
          refine (bin_yes (n - 1) (k - 1) (by omega) (by omega) (by omega) (by omega) w1).mono ?_; rintro e w2 ⟨rfl, rfl⟩
          generalize chN (n - 1) (k - 1).toNat = x at *
          go_wp2_with fail
          refine (bin_yes (n - 1) k (by omega) (by omega) (by omega) (by omega) w1).mono ?_; rintro e w2 ⟨rfl, rfl⟩
          generalize chN (n - 1) k.toNat = y at *
          have hp : (v == x + y) = true := beq_iff_eq.2 HP.out
          by_cases q1 : n < 0
          · go_wp2_with fail
            go_ret
            exact ⟨rfl, B1.out⟩
          · by_cases q2 : k ≤ n
            · go_wp2_with fail
              go_ret
              exact ⟨rfl, B1.out⟩
            · have hv0 : (v == 0) = true := beq_iff_eq.2 (HL.out (by omega) (by omega))
              have q3 : decide (k ≤ n) = false := decide_eq_false q2
              have q4 : decide (n < 0) = false := decide_eq_false q1
              go_wp2_with fail
              go_ret
              exact ⟨rfl, B1.out⟩
    · have HI := hidH (binomial_no n k h)
      have HS := hidH (sBinomial_no n k h)
      clear h
      go_wp2_with fail
      refine (HI.out w1).mono ?_; rintro e w2 ⟨rfl, rfl⟩
      go_wp2_with fail
      refine (HS.out w1).mono ?_; rintro e w2 ⟨rfl, rfl⟩
      go_wp2_with fail
      go_ret
      exact ⟨rfl, B1.out⟩
end Go.Proofs.Ytnbggjdmpgjkgaa
