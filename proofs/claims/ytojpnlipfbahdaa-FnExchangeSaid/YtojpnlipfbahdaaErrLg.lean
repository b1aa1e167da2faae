/-
  The walk of the law of ExchangeDigits: exchanged digits keep the remainder by 9, not that by 11, and are exchanged back. No conditions but that the bytes that came in can be read.
-/
import Derived.Test.YtojpnlipfbahdaaErrKa
import Derived.Test.YtojpnlipfbahdaaErrG
import Derived.BigRegion
namespace Go.Proofs.Ytojpnlipfbahdaa
set_option maxRecDepth 4000
open Go.RowKit
theorem ex_true (n p : Int) (h : exOk n p = true) : 0 ≤ n ∧ n ≤ 1000000000 ∧ 0 ≤ p ∧ p ≤ 8 := by
  unfold exOk plOk at h
  rw [Bool.and_eq_true, decide_eq_true_eq, decide_eq_true_eq] at h
  omega
theorem nine_mul (d P : Int) : d * (10 * P - P) = P * (9 * d) := by
  rw [show 10 * P - P = 9 * P by omega, ← Int.mul_assoc, Int.mul_comm (d * 9) P, Int.mul_comm d 9]
set_option maxHeartbeats 1000000 in
theorem eleven (P d : Int) (hP : P = 1 ∨ P = 10 ∨ P = 100 ∨ P = 1000 ∨ P = 10000 ∨ P = 100000 ∨ P = 1000000 ∨ P = 10000000 ∨ P = 100000000) (h1 : -9 ≤ d) (h2 : d ≤ 9) : (P * (9 * d) % 11 = 0 ↔ d = 0) ∧ (P * (9 * d) = 0 ↔ d = 0) ∧ -81000000000 ≤ P * (9 * d) ∧ P * (9 * d) ≤ 81000000000 := by
  rcases (show d = -9 ∨ d = -8 ∨ d = -7 ∨ d = -6 ∨ d = -5 ∨ d = -4 ∨ d = -3 ∨ d = -2 ∨ d = -1 ∨ d = 0 ∨ d = 1 ∨ d = 2 ∨ d = 3 ∨ d = 4 ∨ d = 5 ∨ d = 6 ∨ d = 7 ∨ d = 8 ∨ d = 9 by omega) with rfl | rfl | rfl | rfl | rfl | rfl | rfl | rfl | rfl | rfl | rfl | rfl | rfl | rfl | rfl | rfl | rfl | rfl | rfl <;> rcases hP with rfl | rfl | rfl | rfl | rfl | rfl | rfl | rfl | rfl <;> decide
theorem ex_at (P n : Int) (hP : P = 1 ∨ P = 10 ∨ P = 100 ∨ P = 1000 ∨ P = 10000 ∨ P = 100000 ∨ P = 1000000 ∨ P = 10000000 ∨ P = 100000000) (h1 : 0 ≤ n) (h2 : n ≤ 1000000000) :
    (exN n P = n ↔ n / P % 10 = n / P / 10 % 10) ∧ (exN n P - n) % 9 = 0 ∧ ((exN n P - n) % 11 = 0 ↔ n / P % 10 = n / P / 10 % 10) ∧ exN (exN n P) P = n ∧ 0 ≤ exN n P ∧ exN n P ≤ 100000000000 := by
  have hPp : 0 < P := by omega
  have hr := Int.emod_nonneg n (show P ≠ 0 by omega)
  have hr2 := Int.emod_lt_of_pos n hPp
  have hn := Int.mul_ediv_add_emod n P
  have q0 : 0 ≤ n / P := Int.ediv_nonneg h1 (by omega)
  unfold exN
  generalize n / P = q at *
  generalize n % P = r at *
  obtain ⟨d, hd⟩ : ∃ d, d = q % 10 - q / 10 % 10 := ⟨_, rfl⟩
  rw [← hd]
  have d1 : -9 ≤ d := by omega
  have d2 : d ≤ 9 := by omega
  have ⟨e1, e2, e3, e4⟩ := eleven P d hP d1 d2
  have hm : n + d * (10 * P - P) = r + P * (q + 9 * d) := by rw [nine_mul, Int.mul_add]; omega
  have hq : (n + d * (10 * P - P)) / P = q + 9 * d := by
    rw [hm, Int.add_mul_ediv_left r _ (by omega), Int.ediv_eq_zero_of_lt hr hr2, Int.zero_add]
  have hc0 : 0 ≤ q / 10 / 10 := by omega
  have hq' : 0 ≤ q + 9 * d := by omega
  have hp0 : 0 ≤ P * (q + 9 * d) := Int.mul_nonneg (by omega) hq'
  have g1 : q + 9 * d = 10 * (10 * (q / 10 / 10) + q % 10) + q / 10 % 10 := by omega
  have g2 : (q + 9 * d) % 10 = q / 10 % 10 := by rw [g1]; omega
  have g3 : (q + 9 * d) / 10 = 10 * (q / 10 / 10) + q % 10 := by rw [g1]; omega
  have hd2 : (q + 9 * d) % 10 - (q + 9 * d) / 10 % 10 = -d := by rw [g2, g3]; omega
  rw [hq, hd2, Int.neg_mul]
  have h9 : (n + d * (10 * P - P) - n) % 9 = 0 := by
    rw [nine_mul, show n + P * (9 * d) - n = 9 * (P * d) by rw [← Int.mul_assoc P 9 d, Int.mul_comm P 9, Int.mul_assoc]; omega]
    exact Int.mul_emod_right 9 _
  refine ⟨?_, h9, ?_, by omega, by rw [hm]; exact Int.add_nonneg hr hp0, by rw [nine_mul]; omega⟩
  · rw [nine_mul]; omega
  · rw [nine_mul, Int.add_comm n, Int.add_sub_cancel]; omega
theorem ten_ways (p : Nat) (h : p ≤ 8) : tenP p = 1 ∨ tenP p = 10 ∨ tenP p = 100 ∨ tenP p = 1000 ∨ tenP p = 10000 ∨ tenP p = 100000 ∨ tenP p = 1000000 ∨ tenP p = 10000000 ∨ tenP p = 100000000 := by
  rcases (show p = 0 ∨ p = 1 ∨ p = 2 ∨ p = 3 ∨ p = 4 ∨ p = 5 ∨ p = 6 ∨ p = 7 ∨ p = 8 by omega) with rfl | rfl | rfl | rfl | rfl | rfl | rfl | rfl | rfl <;> decide
set_option maxHeartbeats 2000000 in
theorem lawExchange (a : Option Addr) (len cap : Nat) (w : World) (hc : Came w a len cap) : Calls Try.prog 8 #[.slice a len cap] w (Gives (.bool true) w) := by
  have hcap := hc.lenLe
  have hcap2 := hc.capLe
  unfold maxLen at hcap2
  by_cases hbig : 1048576 < len
  · clear hc
    go_enter Try.func8, Try.ntmps8
    go_wp2
    go_ret
    exact ⟨rfl, Below.refl _ _⟩
  · have HD := hidH (drawExchangeDigits a len cap w hc (by omega))
    clear hc
    go_enter Try.func8, Try.ntmps8
    go_wp2_with fail
    refine HD.out.mono ?_
    rintro e w1 ⟨n, p, rfl, hB⟩
    have B1 := hidH hB
    clear hB HD
    cases hok : exOk n p
    · have HI := hidH (fun w => ex_any n p w)
      have HS := hidH (fun w => sEx_any n p w)
      rw [hok] at HI HS
      generalize exA n p = m at *
      clear hok
      go_wp2_with fail
      refine (HI.out w1).mono ?_; rintro e w2 ⟨rfl, hb⟩
      have B2 := hidH (B1.out.trans (hb.mono B1.out.size))
      clear hb
      go_wp2_with fail
      refine (HS.out w2).mono ?_; rintro e w3 ⟨rfl, hb⟩
      have B3 := hidH (B2.out.trans (hb.mono B2.out.size))
      clear hb
      go_wp2_with fail
      go_ret
      exact ⟨rfl, B3.out⟩
    · have HI := hidH (fun w => ex_any n p w)
      have HS := hidH (fun w => sEx_any n p w)
      have ⟨n1, n2, p1, p2⟩ := ex_true n p hok
      obtain ⟨k, rfl⟩ := Int.eq_ofNat_of_zero_le p1
      have hA : exA n (k : Int) = exN n (tenP k) := by rw [exA, hok, if_pos rfl, Int.toNat_natCast]
      have hbk : exOk (exA n (k : Int)) (k : Int) = true → exA (exA n (k : Int)) (k : Int) = exN (exN n (tenP k)) (tenP k) := fun h => by rw [exA, h, if_pos rfl, Int.toNat_natCast, hA]
      have ⟨f1, f2, f3, f4, f5, f6⟩ := ex_at (tenP k) n (ten_ways k (by omega)) n1 n2
      rw [← hA] at f1 f2 f3 f4 f5 f6 hbk
      rw [f4] at hbk
      rw [hok] at HI HS
      generalize exA n (k : Int) = m at *
      have HJ := hidH (fun w => ex_any m (k : Int) w)
      have HBK := hidH hbk
      clear hok hA hbk f4
      have HF2 := hidH f2
      obtain ⟨S, hS⟩ : ∃ S, S = tenP k := ⟨_, rfl⟩
      have hp1 := tenP_pos k
      have HSS := hidH hS
      rw [← hS] at f1 f3 hp1
      obtain ⟨q, hq⟩ : ∃ q, q = n / S := ⟨_, rfl⟩
      have hqt : n.tdiv S = q := by rw [hq, Int.tdiv_eq_ediv_of_nonneg n1]
      have hqe : n / S = q := hq.symm
      have hq0 : 0 ≤ q := by rw [hq]; exact Int.ediv_nonneg n1 (by omega)
      have hq9 : q ≤ 1000000000 := by rw [hq]; exact Int.le_trans (Int.ediv_le_self _ n1) n2
      rw [← hq] at f1 f3
      have HF1 := hidH f1
      have HF3 := hidH f3
      clear hS hq f1 f2 f3
      have hS0 : (S == 0) = false := beq_eq_false_iff_ne.2 (by omega)
      go_wp2_with fail
      refine (HI.out w1).mono ?_; rintro e w2 ⟨rfl, hb⟩
      have B2 := hidH (B1.out.trans (hb.mono B1.out.size))
      clear hb
      go_wp2_with fail
      refine (HS.out w2).mono ?_; rintro e w3 ⟨rfl, hb⟩
      have B3 := hidH (B2.out.trans (hb.mono B2.out.size))
      clear hb
      go_wp2_with fail
      go_loopw [9, 10] (fun s i wr => ∃ j : Nat, j ≤ k ∧ i = .int .i64 j ∧ s = .int .i64 (tenP j) ∧ wr = w3) (fun _ i _ => k - (intOf i).toNat)
      case atStart => exact ⟨0, Nat.zero_le _, rfl, rfl, rfl⟩
      case round =>
        obtain ⟨j, hj, rfl, rfl, rfl⟩ := hrel
        have t1 := tenP_pos j
        have t2 := tenP_12 j (by omega)
        by_cases hlt : j < k
        · go_wp2_with fail
          go_roundw
          case rel => exact ⟨j + 1, by omega, by go_num, by rw [tenP, Int.mul_comm], by first | rfl | trivial⟩
          case measure => simp [intOf]; omega
        · obtain rfl : j = k := by omega
          rw [← HSS.out] at *
          clear HSS t1 t2
          by_cases he : q % 10 = q / 10 % 10
          · have hmn : m = n := HF1.out.2 he
            subst hmn
            have heb : (q % 10 == q / 10 % 10) = true := beq_iff_eq.2 he
            clear he
            go_wp2_with fail
            go_quiet (fail)
            go_wp2_with fail
            refine (HJ.out _).mono ?_; rintro e w4 ⟨rfl, hb⟩
            have B4 := hidH ((below_drewN B3.out _).trans (hb.mono (by have := B3.out.size; exact this)))
            clear hb
            cases hx : exOk m (j : Int)
            · clear hx HBK
              generalize exA m (j : Int) = z at *
              go_wp2_with fail
              go_ret
              exact ⟨rfl, B4.out⟩
            · have hz : (exA m (j : Int) == m) = true := beq_iff_eq.2 (HBK.out hx)
              clear hx HBK
              generalize exA m (j : Int) = z at *
              go_wp2_with fail
              go_ret
              exact ⟨rfl, B4.out⟩
          · have hmn : m ≠ n := fun e => he (HF1.out.1 e)
            have h11 : ¬ (m - n) % 11 = 0 := fun e => he (HF3.out.1 e)
            have heb : (q % 10 == q / 10 % 10) = false := beq_eq_false_iff_ne.2 he
            have hmb : (m == n) = false := beq_eq_false_iff_ne.2 hmn
            have t9 : (m - n).tmod 9 = 0 := Int.tmod_eq_zero_of_dvd (Int.dvd_of_emod_eq_zero HF2.out)
            have t11 : ¬ (m - n).tmod 11 = 0 := fun e => h11 (Int.emod_eq_zero_of_dvd (Int.dvd_of_tmod_eq_zero e))
            have t9b : ((m - n).tmod 9 == 0) = true := beq_iff_eq.2 t9
            have t11b : ((m - n).tmod 11 == 0) = false := beq_eq_false_iff_ne.2 t11
            clear he hmn h11 t9 t11
            go_wp2_with fail
            go_quiet (fail)
            go_wp2_with fail
            refine (HJ.out _).mono ?_; rintro e w4 ⟨rfl, hb⟩
            have B4 := hidH ((below_drewN B3.out _).trans (hb.mono (by have := B3.out.size; exact this)))
            clear hb
            cases hx : exOk m (j : Int)
            · clear hx HBK
              generalize exA m (j : Int) = z at *
              go_wp2_with fail
              go_ret
              exact ⟨rfl, B4.out⟩
            · have hz : (exA m (j : Int) == n) = true := beq_iff_eq.2 (HBK.out hx)
              clear hx HBK
              generalize exA m (j : Int) = z at *
              go_wp2_with fail
              go_ret
              exact ⟨rfl, B4.out⟩
end Go.Proofs.Ytojpnlipfbahdaa
