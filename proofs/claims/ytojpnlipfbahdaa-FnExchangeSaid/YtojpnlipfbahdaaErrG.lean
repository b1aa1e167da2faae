/-
  ExchangeDigits: the program and the model, at every argument. No conditions.
-/
import Derived.Test.YtojpnlipfbahdaaCols
import Derived.Test.YtojpnlipfbahdaaSpecA
import Derived.Test.YtojpnlipfbahdaaIn
namespace Go.Proofs.Ytojpnlipfbahdaa
set_option maxRecDepth 4000
open Go.RowKit
/-- The number with the digits of a power and of the next one exchanged. -/
def exN (n P : Int) : Int := n + (n / P % 10 - n / P / 10 % 10) * (10 * P - P)
def plOk (p : Int) : Bool := decide (0 ≤ p ∧ p ≤ 8)
def exOk (n p : Int) : Bool := decide (0 ≤ n ∧ n ≤ 1000000000) && plOk p
/-- What ExchangeDigits answers. -/
def exA (n p : Int) : Int := if exOk n p then exN n (tenP p.toNat) else 0
theorem ret_congr {x y : Int} {b : Bool} (h : x = y) : Ending.returned (.tuple #[.int .i64 x, .bool b]) = .returned (.tuple #[.int .i64 y, .bool b]) := by rw [h]
theorem drewN_zero (w : World) : w.drewN 0 = w := rfl
theorem tenP_8 : tenP 0 = 1 ∧ tenP 1 = 10 ∧ tenP 2 = 100 ∧ tenP 3 = 1000 ∧ tenP 4 = 10000 ∧ tenP 5 = 100000 ∧ tenP 6 = 1000000 ∧ tenP 7 = 10000000 ∧ tenP 8 = 100000000 := by decide
theorem ex_0 (n : Int) (h1 : 0 ≤ n) (h2 : n ≤ 1000000000) (w : World) : Calls Try.prog 28 #[.int .i64 n, .int .i64 0] w fun e w' => e = .returned (.tuple #[.int .i64 (exN n 1), .bool true]) ∧ ∃ q, w' = w.drewN q := by
  have HP := hidH (pow_any 0 (by omega) w)
  have HE := hidH (show exN n 1 = n + (n / 1 % 10 - n / 1 / 10 % 10) * (10 * 1 - 1) from rfl)
  have hb1 : 0 ≤ n / 1 % 10 ∧ n / 1 % 10 ≤ 9 := by omega
  have hb2 : 0 ≤ n / 1 / 10 % 10 ∧ n / 1 / 10 % 10 ≤ 9 := by omega
  go_enter Try.func28, Try.ntmps28
  go_wp2_with fail
  refine HP.out.mono ?_; rintro e w_ ⟨rfl, rfl⟩
  rw [show tenP 0 = 1 from rfl]
  go_wp2_with fail
  go_quiet (fail)
  go_wp2_with fail
  go_ret2
  refine ⟨ret_congr ?_, _, by first | rfl | exact (drewN_zero _).symm⟩
  rw [HE.out]
  try omega
theorem ex_1 (n : Int) (h1 : 0 ≤ n) (h2 : n ≤ 1000000000) (w : World) : Calls Try.prog 28 #[.int .i64 n, .int .i64 1] w fun e w' => e = .returned (.tuple #[.int .i64 (exN n 10), .bool true]) ∧ ∃ q, w' = w.drewN q := by
  have HP := hidH (pow_any 1 (by omega) w)
  have HE := hidH (show exN n 10 = n + (n / 10 % 10 - n / 10 / 10 % 10) * (10 * 10 - 10) from rfl)
  have hb1 : 0 ≤ n / 10 % 10 ∧ n / 10 % 10 ≤ 9 := by omega
  have hb2 : 0 ≤ n / 10 / 10 % 10 ∧ n / 10 / 10 % 10 ≤ 9 := by omega
  go_enter Try.func28, Try.ntmps28
  go_wp2_with fail
  refine HP.out.mono ?_; rintro e w_ ⟨rfl, rfl⟩
  rw [show tenP 1 = 10 from rfl]
  go_wp2_with fail
  go_quiet (fail)
  go_wp2_with fail
  go_ret2
  refine ⟨ret_congr ?_, _, by first | rfl | exact (drewN_zero _).symm⟩
  rw [HE.out]
  try omega
theorem ex_2 (n : Int) (h1 : 0 ≤ n) (h2 : n ≤ 1000000000) (w : World) : Calls Try.prog 28 #[.int .i64 n, .int .i64 2] w fun e w' => e = .returned (.tuple #[.int .i64 (exN n 100), .bool true]) ∧ ∃ q, w' = w.drewN q := by
  have HP := hidH (pow_any 2 (by omega) w)
  have HE := hidH (show exN n 100 = n + (n / 100 % 10 - n / 100 / 10 % 10) * (10 * 100 - 100) from rfl)
  have hb1 : 0 ≤ n / 100 % 10 ∧ n / 100 % 10 ≤ 9 := by omega
  have hb2 : 0 ≤ n / 100 / 10 % 10 ∧ n / 100 / 10 % 10 ≤ 9 := by omega
  go_enter Try.func28, Try.ntmps28
  go_wp2_with fail
  refine HP.out.mono ?_; rintro e w_ ⟨rfl, rfl⟩
  rw [show tenP 2 = 100 from rfl]
  go_wp2_with fail
  go_quiet (fail)
  go_wp2_with fail
  go_ret2
  refine ⟨ret_congr ?_, _, by first | rfl | exact (drewN_zero _).symm⟩
  rw [HE.out]
  try omega
theorem ex_3 (n : Int) (h1 : 0 ≤ n) (h2 : n ≤ 1000000000) (w : World) : Calls Try.prog 28 #[.int .i64 n, .int .i64 3] w fun e w' => e = .returned (.tuple #[.int .i64 (exN n 1000), .bool true]) ∧ ∃ q, w' = w.drewN q := by
  have HP := hidH (pow_any 3 (by omega) w)
  have HE := hidH (show exN n 1000 = n + (n / 1000 % 10 - n / 1000 / 10 % 10) * (10 * 1000 - 1000) from rfl)
  have hb1 : 0 ≤ n / 1000 % 10 ∧ n / 1000 % 10 ≤ 9 := by omega
  have hb2 : 0 ≤ n / 1000 / 10 % 10 ∧ n / 1000 / 10 % 10 ≤ 9 := by omega
  go_enter Try.func28, Try.ntmps28
  go_wp2_with fail
  refine HP.out.mono ?_; rintro e w_ ⟨rfl, rfl⟩
  rw [show tenP 3 = 1000 from rfl]
  go_wp2_with fail
  go_quiet (fail)
  go_wp2_with fail
  go_ret2
  refine ⟨ret_congr ?_, _, by first | rfl | exact (drewN_zero _).symm⟩
  rw [HE.out]
  try omega
theorem ex_4 (n : Int) (h1 : 0 ≤ n) (h2 : n ≤ 1000000000) (w : World) : Calls Try.prog 28 #[.int .i64 n, .int .i64 4] w fun e w' => e = .returned (.tuple #[.int .i64 (exN n 10000), .bool true]) ∧ ∃ q, w' = w.drewN q := by
  have HP := hidH (pow_any 4 (by omega) w)
  have HE := hidH (show exN n 10000 = n + (n / 10000 % 10 - n / 10000 / 10 % 10) * (10 * 10000 - 10000) from rfl)
  have hb1 : 0 ≤ n / 10000 % 10 ∧ n / 10000 % 10 ≤ 9 := by omega
  have hb2 : 0 ≤ n / 10000 / 10 % 10 ∧ n / 10000 / 10 % 10 ≤ 9 := by omega
  go_enter Try.func28, Try.ntmps28
  go_wp2_with fail
  refine HP.out.mono ?_; rintro e w_ ⟨rfl, rfl⟩
  rw [show tenP 4 = 10000 from rfl]
  go_wp2_with fail
  go_quiet (fail)
  go_wp2_with fail
  go_ret2
  refine ⟨ret_congr ?_, _, by first | rfl | exact (drewN_zero _).symm⟩
  rw [HE.out]
  try omega
theorem ex_5 (n : Int) (h1 : 0 ≤ n) (h2 : n ≤ 1000000000) (w : World) : Calls Try.prog 28 #[.int .i64 n, .int .i64 5] w fun e w' => e = .returned (.tuple #[.int .i64 (exN n 100000), .bool true]) ∧ ∃ q, w' = w.drewN q := by
  have HP := hidH (pow_any 5 (by omega) w)
  have HE := hidH (show exN n 100000 = n + (n / 100000 % 10 - n / 100000 / 10 % 10) * (10 * 100000 - 100000) from rfl)
  have hb1 : 0 ≤ n / 100000 % 10 ∧ n / 100000 % 10 ≤ 9 := by omega
  have hb2 : 0 ≤ n / 100000 / 10 % 10 ∧ n / 100000 / 10 % 10 ≤ 9 := by omega
  go_enter Try.func28, Try.ntmps28
  go_wp2_with fail
  refine HP.out.mono ?_; rintro e w_ ⟨rfl, rfl⟩
  rw [show tenP 5 = 100000 from rfl]
  go_wp2_with fail
  go_quiet (fail)
  go_wp2_with fail
  go_ret2
  refine ⟨ret_congr ?_, _, by first | rfl | exact (drewN_zero _).symm⟩
  rw [HE.out]
  try omega
theorem ex_6 (n : Int) (h1 : 0 ≤ n) (h2 : n ≤ 1000000000) (w : World) : Calls Try.prog 28 #[.int .i64 n, .int .i64 6] w fun e w' => e = .returned (.tuple #[.int .i64 (exN n 1000000), .bool true]) ∧ ∃ q, w' = w.drewN q := by
  have HP := hidH (pow_any 6 (by omega) w)
  have HE := hidH (show exN n 1000000 = n + (n / 1000000 % 10 - n / 1000000 / 10 % 10) * (10 * 1000000 - 1000000) from rfl)
  have hb1 : 0 ≤ n / 1000000 % 10 ∧ n / 1000000 % 10 ≤ 9 := by omega
  have hb2 : 0 ≤ n / 1000000 / 10 % 10 ∧ n / 1000000 / 10 % 10 ≤ 9 := by omega
  go_enter Try.func28, Try.ntmps28
  go_wp2_with fail
  refine HP.out.mono ?_; rintro e w_ ⟨rfl, rfl⟩
  rw [show tenP 6 = 1000000 from rfl]
  go_wp2_with fail
  go_quiet (fail)
  go_wp2_with fail
  go_ret2
  refine ⟨ret_congr ?_, _, by first | rfl | exact (drewN_zero _).symm⟩
  rw [HE.out]
  try omega
theorem ex_7 (n : Int) (h1 : 0 ≤ n) (h2 : n ≤ 1000000000) (w : World) : Calls Try.prog 28 #[.int .i64 n, .int .i64 7] w fun e w' => e = .returned (.tuple #[.int .i64 (exN n 10000000), .bool true]) ∧ ∃ q, w' = w.drewN q := by
  have HP := hidH (pow_any 7 (by omega) w)
  have HE := hidH (show exN n 10000000 = n + (n / 10000000 % 10 - n / 10000000 / 10 % 10) * (10 * 10000000 - 10000000) from rfl)
  have hb1 : 0 ≤ n / 10000000 % 10 ∧ n / 10000000 % 10 ≤ 9 := by omega
  have hb2 : 0 ≤ n / 10000000 / 10 % 10 ∧ n / 10000000 / 10 % 10 ≤ 9 := by omega
  go_enter Try.func28, Try.ntmps28
  go_wp2_with fail
  refine HP.out.mono ?_; rintro e w_ ⟨rfl, rfl⟩
  rw [show tenP 7 = 10000000 from rfl]
  go_wp2_with fail
  go_quiet (fail)
  go_wp2_with fail
  go_ret2
  refine ⟨ret_congr ?_, _, by first | rfl | exact (drewN_zero _).symm⟩
  rw [HE.out]
  try omega
theorem ex_8 (n : Int) (h1 : 0 ≤ n) (h2 : n ≤ 1000000000) (w : World) : Calls Try.prog 28 #[.int .i64 n, .int .i64 8] w fun e w' => e = .returned (.tuple #[.int .i64 (exN n 100000000), .bool true]) ∧ ∃ q, w' = w.drewN q := by
  have HP := hidH (pow_any 8 (by omega) w)
  have HE := hidH (show exN n 100000000 = n + (n / 100000000 % 10 - n / 100000000 / 10 % 10) * (10 * 100000000 - 100000000) from rfl)
  have hb1 : 0 ≤ n / 100000000 % 10 ∧ n / 100000000 % 10 ≤ 9 := by omega
  have hb2 : 0 ≤ n / 100000000 / 10 % 10 ∧ n / 100000000 / 10 % 10 ≤ 9 := by omega
  go_enter Try.func28, Try.ntmps28
  go_wp2_with fail
  refine HP.out.mono ?_; rintro e w_ ⟨rfl, rfl⟩
  rw [show tenP 8 = 100000000 from rfl]
  go_wp2_with fail
  go_quiet (fail)
  go_wp2_with fail
  go_ret2
  refine ⟨ret_congr ?_, _, by first | rfl | exact (drewN_zero _).symm⟩
  rw [HE.out]
  try omega
theorem ex_no (n p : Int) (h : exOk n p = false) (w : World) : Calls Try.prog 28 #[.int .i64 n, .int .i64 p] w fun e w' => e = .returned (.tuple #[.int .i64 0, .bool false]) ∧ w = w' := by
  have hc : n < 0 ∨ (0 ≤ n ∧ 1000000000 < n) ∨ (0 ≤ n ∧ n ≤ 1000000000 ∧ p < 0) ∨ (0 ≤ n ∧ n ≤ 1000000000 ∧ 0 ≤ p ∧ 8 < p) := by
    unfold exOk plOk at h
    rw [Bool.and_eq_false_iff, decide_eq_false_iff_not, decide_eq_false_iff_not] at h
    omega
  clear h
  rcases hc with h1 | ⟨h1, h2⟩ | ⟨h1, h2, h3⟩ | ⟨h1, h2, h3, h4⟩
  · go_enter Try.func28, Try.ntmps28
    go_wp2_with fail
    go_ret2
    exact ⟨rfl, rfl⟩
  · go_enter Try.func28, Try.ntmps28
    go_wp2_with fail
    go_ret2
    exact ⟨rfl, rfl⟩
  · go_enter Try.func28, Try.ntmps28
    go_wp2_with fail
    go_ret2
    exact ⟨rfl, rfl⟩
  · go_enter Try.func28, Try.ntmps28
    go_wp2_with fail
    go_ret2
    exact ⟨rfl, rfl⟩
theorem ex_any (n p : Int) (w : World) : Calls Try.prog 28 #[.int .i64 n, .int .i64 p] w (Gives (.tuple #[.int .i64 (exA n p), .bool (exOk n p)]) w) := by
  unfold exA
  cases h : exOk n p
  · refine (ex_no n p h w).mono ?_; rintro e w' ⟨rfl, rfl⟩
    exact ⟨rfl, Below.refl _ _⟩
  · have h' := h
    unfold exOk plOk at h'
    rw [Bool.and_eq_true, decide_eq_true_eq, decide_eq_true_eq] at h'
    obtain ⟨⟨h1, h2⟩, h3, h4⟩ := h'
    rcases (show p = 0 ∨ p = 1 ∨ p = 2 ∨ p = 3 ∨ p = 4 ∨ p = 5 ∨ p = 6 ∨ p = 7 ∨ p = 8 by omega) with rfl | rfl | rfl | rfl | rfl | rfl | rfl | rfl | rfl
    · refine (ex_0 n h1 h2 w).mono ?_; rintro e w' ⟨rfl, q, rfl⟩
      exact ⟨rfl, below_drewN (Below.refl _ _) q⟩
    · refine (ex_1 n h1 h2 w).mono ?_; rintro e w' ⟨rfl, q, rfl⟩
      exact ⟨rfl, below_drewN (Below.refl _ _) q⟩
    · refine (ex_2 n h1 h2 w).mono ?_; rintro e w' ⟨rfl, q, rfl⟩
      exact ⟨rfl, below_drewN (Below.refl _ _) q⟩
    · refine (ex_3 n h1 h2 w).mono ?_; rintro e w' ⟨rfl, q, rfl⟩
      exact ⟨rfl, below_drewN (Below.refl _ _) q⟩
    · refine (ex_4 n h1 h2 w).mono ?_; rintro e w' ⟨rfl, q, rfl⟩
      exact ⟨rfl, below_drewN (Below.refl _ _) q⟩
    · refine (ex_5 n h1 h2 w).mono ?_; rintro e w' ⟨rfl, q, rfl⟩
      exact ⟨rfl, below_drewN (Below.refl _ _) q⟩
    · refine (ex_6 n h1 h2 w).mono ?_; rintro e w' ⟨rfl, q, rfl⟩
      exact ⟨rfl, below_drewN (Below.refl _ _) q⟩
    · refine (ex_7 n h1 h2 w).mono ?_; rintro e w' ⟨rfl, q, rfl⟩
      exact ⟨rfl, below_drewN (Below.refl _ _) q⟩
    · refine (ex_8 n h1 h2 w).mono ?_; rintro e w' ⟨rfl, q, rfl⟩
      exact ⟨rfl, below_drewN (Below.refl _ _) q⟩
theorem sEx_0 (n : Int) (h1 : 0 ≤ n) (h2 : n ≤ 1000000000) (w : World) : Calls Try.prog 29 #[.int .i64 n, .int .i64 0] w fun e w' => e = .returned (.tuple #[.int .i64 (exN n 1), .bool true]) ∧ ∃ q, w' = w.drewN q := by
  have HP := hidH (sTen_any 0 (by omega) w)
  have HE := hidH (show exN n 1 = n + (n / 1 % 10 - n / 1 / 10 % 10) * (10 * 1 - 1) from rfl)
  have hb1 : 0 ≤ n / 1 % 10 ∧ n / 1 % 10 ≤ 9 := by omega
  have hb2 : 0 ≤ n / 1 / 10 % 10 ∧ n / 1 / 10 % 10 ≤ 9 := by omega
  go_enter Try.func29, Try.ntmps29
  go_wp2_with fail
  refine (sIn_any n 0 1000000000 true (decide_eq_true ⟨h1, h2⟩) _).mono ?_; rintro e w_ ⟨rfl, rfl⟩
  go_wp2_with fail
  refine (sIn_any 0 0 8 true rfl _).mono ?_; rintro e w_ ⟨rfl, rfl⟩
  go_wp2_with fail
  refine HP.out.mono ?_; rintro e w_ ⟨rfl, rfl⟩
  rw [show tenP 0 = 1 from rfl]
  go_wp2_with fail
  go_ret2
  refine ⟨ret_congr ?_, _, by first | rfl | exact (drewN_zero _).symm⟩
  rw [HE.out]
  try omega
theorem sEx_1 (n : Int) (h1 : 0 ≤ n) (h2 : n ≤ 1000000000) (w : World) : Calls Try.prog 29 #[.int .i64 n, .int .i64 1] w fun e w' => e = .returned (.tuple #[.int .i64 (exN n 10), .bool true]) ∧ ∃ q, w' = w.drewN q := by
  have HP := hidH (sTen_any 1 (by omega) w)
  have HE := hidH (show exN n 10 = n + (n / 10 % 10 - n / 10 / 10 % 10) * (10 * 10 - 10) from rfl)
  have hb1 : 0 ≤ n / 10 % 10 ∧ n / 10 % 10 ≤ 9 := by omega
  have hb2 : 0 ≤ n / 10 / 10 % 10 ∧ n / 10 / 10 % 10 ≤ 9 := by omega
  go_enter Try.func29, Try.ntmps29
  go_wp2_with fail
  refine (sIn_any n 0 1000000000 true (decide_eq_true ⟨h1, h2⟩) _).mono ?_; rintro e w_ ⟨rfl, rfl⟩
  go_wp2_with fail
  refine (sIn_any 1 0 8 true rfl _).mono ?_; rintro e w_ ⟨rfl, rfl⟩
  go_wp2_with fail
  refine HP.out.mono ?_; rintro e w_ ⟨rfl, rfl⟩
  rw [show tenP 1 = 10 from rfl]
  go_wp2_with fail
  go_ret2
  refine ⟨ret_congr ?_, _, by first | rfl | exact (drewN_zero _).symm⟩
  rw [HE.out]
  try omega
theorem sEx_2 (n : Int) (h1 : 0 ≤ n) (h2 : n ≤ 1000000000) (w : World) : Calls Try.prog 29 #[.int .i64 n, .int .i64 2] w fun e w' => e = .returned (.tuple #[.int .i64 (exN n 100), .bool true]) ∧ ∃ q, w' = w.drewN q := by
  have HP := hidH (sTen_any 2 (by omega) w)
  have HE := hidH (show exN n 100 = n + (n / 100 % 10 - n / 100 / 10 % 10) * (10 * 100 - 100) from rfl)
  have hb1 : 0 ≤ n / 100 % 10 ∧ n / 100 % 10 ≤ 9 := by omega
  have hb2 : 0 ≤ n / 100 / 10 % 10 ∧ n / 100 / 10 % 10 ≤ 9 := by omega
  go_enter Try.func29, Try.ntmps29
  go_wp2_with fail
  refine (sIn_any n 0 1000000000 true (decide_eq_true ⟨h1, h2⟩) _).mono ?_; rintro e w_ ⟨rfl, rfl⟩
  go_wp2_with fail
  refine (sIn_any 2 0 8 true rfl _).mono ?_; rintro e w_ ⟨rfl, rfl⟩
  go_wp2_with fail
  refine HP.out.mono ?_; rintro e w_ ⟨rfl, rfl⟩
  rw [show tenP 2 = 100 from rfl]
  go_wp2_with fail
  go_ret2
  refine ⟨ret_congr ?_, _, by first | rfl | exact (drewN_zero _).symm⟩
  rw [HE.out]
  try omega
theorem sEx_3 (n : Int) (h1 : 0 ≤ n) (h2 : n ≤ 1000000000) (w : World) : Calls Try.prog 29 #[.int .i64 n, .int .i64 3] w fun e w' => e = .returned (.tuple #[.int .i64 (exN n 1000), .bool true]) ∧ ∃ q, w' = w.drewN q := by
  have HP := hidH (sTen_any 3 (by omega) w)
  have HE := hidH (show exN n 1000 = n + (n / 1000 % 10 - n / 1000 / 10 % 10) * (10 * 1000 - 1000) from rfl)
  have hb1 : 0 ≤ n / 1000 % 10 ∧ n / 1000 % 10 ≤ 9 := by omega
  have hb2 : 0 ≤ n / 1000 / 10 % 10 ∧ n / 1000 / 10 % 10 ≤ 9 := by omega
  go_enter Try.func29, Try.ntmps29
  go_wp2_with fail
  refine (sIn_any n 0 1000000000 true (decide_eq_true ⟨h1, h2⟩) _).mono ?_; rintro e w_ ⟨rfl, rfl⟩
  go_wp2_with fail
  refine (sIn_any 3 0 8 true rfl _).mono ?_; rintro e w_ ⟨rfl, rfl⟩
  go_wp2_with fail
  refine HP.out.mono ?_; rintro e w_ ⟨rfl, rfl⟩
  rw [show tenP 3 = 1000 from rfl]
  go_wp2_with fail
  go_ret2
  refine ⟨ret_congr ?_, _, by first | rfl | exact (drewN_zero _).symm⟩
  rw [HE.out]
  try omega
theorem sEx_4 (n : Int) (h1 : 0 ≤ n) (h2 : n ≤ 1000000000) (w : World) : Calls Try.prog 29 #[.int .i64 n, .int .i64 4] w fun e w' => e = .returned (.tuple #[.int .i64 (exN n 10000), .bool true]) ∧ ∃ q, w' = w.drewN q := by
  have HP := hidH (sTen_any 4 (by omega) w)
  have HE := hidH (show exN n 10000 = n + (n / 10000 % 10 - n / 10000 / 10 % 10) * (10 * 10000 - 10000) from rfl)
  have hb1 : 0 ≤ n / 10000 % 10 ∧ n / 10000 % 10 ≤ 9 := by omega
  have hb2 : 0 ≤ n / 10000 / 10 % 10 ∧ n / 10000 / 10 % 10 ≤ 9 := by omega
  go_enter Try.func29, Try.ntmps29
  go_wp2_with fail
  refine (sIn_any n 0 1000000000 true (decide_eq_true ⟨h1, h2⟩) _).mono ?_; rintro e w_ ⟨rfl, rfl⟩
  go_wp2_with fail
  refine (sIn_any 4 0 8 true rfl _).mono ?_; rintro e w_ ⟨rfl, rfl⟩
  go_wp2_with fail
  refine HP.out.mono ?_; rintro e w_ ⟨rfl, rfl⟩
  rw [show tenP 4 = 10000 from rfl]
  go_wp2_with fail
  go_ret2
  refine ⟨ret_congr ?_, _, by first | rfl | exact (drewN_zero _).symm⟩
  rw [HE.out]
  try omega
theorem sEx_5 (n : Int) (h1 : 0 ≤ n) (h2 : n ≤ 1000000000) (w : World) : Calls Try.prog 29 #[.int .i64 n, .int .i64 5] w fun e w' => e = .returned (.tuple #[.int .i64 (exN n 100000), .bool true]) ∧ ∃ q, w' = w.drewN q := by
  have HP := hidH (sTen_any 5 (by omega) w)
  have HE := hidH (show exN n 100000 = n + (n / 100000 % 10 - n / 100000 / 10 % 10) * (10 * 100000 - 100000) from rfl)
  have hb1 : 0 ≤ n / 100000 % 10 ∧ n / 100000 % 10 ≤ 9 := by omega
  have hb2 : 0 ≤ n / 100000 / 10 % 10 ∧ n / 100000 / 10 % 10 ≤ 9 := by omega
  go_enter Try.func29, Try.ntmps29
  go_wp2_with fail
  refine (sIn_any n 0 1000000000 true (decide_eq_true ⟨h1, h2⟩) _).mono ?_; rintro e w_ ⟨rfl, rfl⟩
  go_wp2_with fail
  refine (sIn_any 5 0 8 true rfl _).mono ?_; rintro e w_ ⟨rfl, rfl⟩
  go_wp2_with fail
  refine HP.out.mono ?_; rintro e w_ ⟨rfl, rfl⟩
  rw [show tenP 5 = 100000 from rfl]
  go_wp2_with fail
  go_ret2
  refine ⟨ret_congr ?_, _, by first | rfl | exact (drewN_zero _).symm⟩
  rw [HE.out]
  try omega
theorem sEx_6 (n : Int) (h1 : 0 ≤ n) (h2 : n ≤ 1000000000) (w : World) : Calls Try.prog 29 #[.int .i64 n, .int .i64 6] w fun e w' => e = .returned (.tuple #[.int .i64 (exN n 1000000), .bool true]) ∧ ∃ q, w' = w.drewN q := by
  have HP := hidH (sTen_any 6 (by omega) w)
  have HE := hidH (show exN n 1000000 = n + (n / 1000000 % 10 - n / 1000000 / 10 % 10) * (10 * 1000000 - 1000000) from rfl)
  have hb1 : 0 ≤ n / 1000000 % 10 ∧ n / 1000000 % 10 ≤ 9 := by omega
  have hb2 : 0 ≤ n / 1000000 / 10 % 10 ∧ n / 1000000 / 10 % 10 ≤ 9 := by omega
  go_enter Try.func29, Try.ntmps29
  go_wp2_with fail
  refine (sIn_any n 0 1000000000 true (decide_eq_true ⟨h1, h2⟩) _).mono ?_; rintro e w_ ⟨rfl, rfl⟩
  go_wp2_with fail
  refine (sIn_any 6 0 8 true rfl _).mono ?_; rintro e w_ ⟨rfl, rfl⟩
  go_wp2_with fail
  refine HP.out.mono ?_; rintro e w_ ⟨rfl, rfl⟩
  rw [show tenP 6 = 1000000 from rfl]
  go_wp2_with fail
  go_ret2
  refine ⟨ret_congr ?_, _, by first | rfl | exact (drewN_zero _).symm⟩
  rw [HE.out]
  try omega
theorem sEx_7 (n : Int) (h1 : 0 ≤ n) (h2 : n ≤ 1000000000) (w : World) : Calls Try.prog 29 #[.int .i64 n, .int .i64 7] w fun e w' => e = .returned (.tuple #[.int .i64 (exN n 10000000), .bool true]) ∧ ∃ q, w' = w.drewN q := by
  have HP := hidH (sTen_any 7 (by omega) w)
  have HE := hidH (show exN n 10000000 = n + (n / 10000000 % 10 - n / 10000000 / 10 % 10) * (10 * 10000000 - 10000000) from rfl)
  have hb1 : 0 ≤ n / 10000000 % 10 ∧ n / 10000000 % 10 ≤ 9 := by omega
  have hb2 : 0 ≤ n / 10000000 / 10 % 10 ∧ n / 10000000 / 10 % 10 ≤ 9 := by omega
  go_enter Try.func29, Try.ntmps29
  go_wp2_with fail
  refine (sIn_any n 0 1000000000 true (decide_eq_true ⟨h1, h2⟩) _).mono ?_; rintro e w_ ⟨rfl, rfl⟩
  go_wp2_with fail
  refine (sIn_any 7 0 8 true rfl _).mono ?_; rintro e w_ ⟨rfl, rfl⟩
  go_wp2_with fail
  refine HP.out.mono ?_; rintro e w_ ⟨rfl, rfl⟩
  rw [show tenP 7 = 10000000 from rfl]
  go_wp2_with fail
  go_ret2
  refine ⟨ret_congr ?_, _, by first | rfl | exact (drewN_zero _).symm⟩
  rw [HE.out]
  try omega
theorem sEx_8 (n : Int) (h1 : 0 ≤ n) (h2 : n ≤ 1000000000) (w : World) : Calls Try.prog 29 #[.int .i64 n, .int .i64 8] w fun e w' => e = .returned (.tuple #[.int .i64 (exN n 100000000), .bool true]) ∧ ∃ q, w' = w.drewN q := by
  have HP := hidH (sTen_any 8 (by omega) w)
  have HE := hidH (show exN n 100000000 = n + (n / 100000000 % 10 - n / 100000000 / 10 % 10) * (10 * 100000000 - 100000000) from rfl)
  have hb1 : 0 ≤ n / 100000000 % 10 ∧ n / 100000000 % 10 ≤ 9 := by omega
  have hb2 : 0 ≤ n / 100000000 / 10 % 10 ∧ n / 100000000 / 10 % 10 ≤ 9 := by omega
  go_enter Try.func29, Try.ntmps29
  go_wp2_with fail
  refine (sIn_any n 0 1000000000 true (decide_eq_true ⟨h1, h2⟩) _).mono ?_; rintro e w_ ⟨rfl, rfl⟩
  go_wp2_with fail
  refine (sIn_any 8 0 8 true rfl _).mono ?_; rintro e w_ ⟨rfl, rfl⟩
  go_wp2_with fail
  refine HP.out.mono ?_; rintro e w_ ⟨rfl, rfl⟩
  rw [show tenP 8 = 100000000 from rfl]
  go_wp2_with fail
  go_ret2
  refine ⟨ret_congr ?_, _, by first | rfl | exact (drewN_zero _).symm⟩
  rw [HE.out]
  try omega
theorem sEx_no (n p : Int) (h : exOk n p = false) (w : World) : Calls Try.prog 29 #[.int .i64 n, .int .i64 p] w fun e w' => e = .returned (.tuple #[.int .i64 0, .bool false]) ∧ w = w' := by
  unfold exOk at h
  cases h1 : decide (0 ≤ n ∧ n ≤ 1000000000)
  · have H1 := hidH h1
    clear h h1
    go_enter Try.func29, Try.ntmps29
    go_wp2_with fail
    refine (sIn_any n 0 1000000000 false H1.out _).mono ?_; rintro e w_ ⟨rfl, rfl⟩
    go_wp2_with fail
    go_ret2
    exact ⟨rfl, rfl⟩
  · rw [h1, Bool.true_and] at h
    have H1 := hidH h1
    have H2 := hidH h
    clear h h1
    go_enter Try.func29, Try.ntmps29
    go_wp2_with fail
    refine (sIn_any n 0 1000000000 true H1.out _).mono ?_; rintro e w_ ⟨rfl, rfl⟩
    go_wp2_with fail
    refine (sIn_any p 0 8 false H2.out _).mono ?_; rintro e w_ ⟨rfl, rfl⟩
    go_wp2_with fail
    go_ret2
    exact ⟨rfl, rfl⟩
theorem sEx_any (n p : Int) (w : World) : Calls Try.prog 29 #[.int .i64 n, .int .i64 p] w (Gives (.tuple #[.int .i64 (exA n p), .bool (exOk n p)]) w) := by
  unfold exA
  cases h : exOk n p
  · refine (sEx_no n p h w).mono ?_; rintro e w' ⟨rfl, rfl⟩
    exact ⟨rfl, Below.refl _ _⟩
  · have h' := h
    unfold exOk plOk at h'
    rw [Bool.and_eq_true, decide_eq_true_eq, decide_eq_true_eq] at h'
    obtain ⟨⟨h1, h2⟩, h3, h4⟩ := h'
    rcases (show p = 0 ∨ p = 1 ∨ p = 2 ∨ p = 3 ∨ p = 4 ∨ p = 5 ∨ p = 6 ∨ p = 7 ∨ p = 8 by omega) with rfl | rfl | rfl | rfl | rfl | rfl | rfl | rfl | rfl
    · refine (sEx_0 n h1 h2 w).mono ?_; rintro e w' ⟨rfl, q, rfl⟩
      exact ⟨rfl, below_drewN (Below.refl _ _) q⟩
    · refine (sEx_1 n h1 h2 w).mono ?_; rintro e w' ⟨rfl, q, rfl⟩
      exact ⟨rfl, below_drewN (Below.refl _ _) q⟩
    · refine (sEx_2 n h1 h2 w).mono ?_; rintro e w' ⟨rfl, q, rfl⟩
      exact ⟨rfl, below_drewN (Below.refl _ _) q⟩
    · refine (sEx_3 n h1 h2 w).mono ?_; rintro e w' ⟨rfl, q, rfl⟩
      exact ⟨rfl, below_drewN (Below.refl _ _) q⟩
    · refine (sEx_4 n h1 h2 w).mono ?_; rintro e w' ⟨rfl, q, rfl⟩
      exact ⟨rfl, below_drewN (Below.refl _ _) q⟩
    · refine (sEx_5 n h1 h2 w).mono ?_; rintro e w' ⟨rfl, q, rfl⟩
      exact ⟨rfl, below_drewN (Below.refl _ _) q⟩
    · refine (sEx_6 n h1 h2 w).mono ?_; rintro e w' ⟨rfl, q, rfl⟩
      exact ⟨rfl, below_drewN (Below.refl _ _) q⟩
    · refine (sEx_7 n h1 h2 w).mono ?_; rintro e w' ⟨rfl, q, rfl⟩
      exact ⟨rfl, below_drewN (Below.refl _ _) q⟩
    · refine (sEx_8 n h1 h2 w).mono ?_; rintro e w' ⟨rfl, q, rfl⟩
      exact ⟨rfl, below_drewN (Below.refl _ _) q⟩
end Go.Proofs.Ytojpnlipfbahdaa
