/-
  Rounding: the model, on single numbers, at every argument. No conditions.
-/
import Derived.Test.YtieealgmmkkgoaaRndB
import Derived.Test.YtieealgmmkkgoaaSpecA
namespace Go.Proofs.Ytieealgmmkkgoaa
set_option maxRecDepth 4000
open Go.RowKit
theorem rest_twice (n u : Int) (hu : 0 < u) : (n.tmod u + u).tmod u = n % u := by
  have h := Int.lt_tmod_of_pos n hu
  rw [Int.tmod_eq_emod_of_nonneg (by omega), Int.add_emod_right, Int.tmod_def, Int.sub_mul_emod_self_left]
theorem rest_twice2 (n u : Int) : (n.tmod u + u) % u = n % u := by
  rw [Int.add_emod_right, Int.tmod_def, Int.sub_mul_emod_self_left]
theorem sRestU_any (n u : Int) (hu1 : 0 < u) (hu2 : u ≤ 1000000) (w : World) : Calls Try.prog 63 #[.int .i64 n, .int .i64 u] w fun e w' => e = .returned (.int .i64 (n % u)) ∧ w = w' := by
  have hm1 := Int.lt_tmod_of_pos n hu1
  have hm2 := Int.tmod_lt_of_pos n hu1
  have HR := hidH (rest_twice n u hu1)
  have HR2 := hidH (rest_twice2 n u)
  have hb1 := Int.emod_nonneg n (show u ≠ 0 by omega)
  have hb2 := Int.emod_lt_of_pos n hu1
  have e1 : wrap64 (n.tmod u + u) = n.tmod u + u := IntWalk.wrap64_in _ (by omega)
  generalize n % u = r at *
  go_enter Try.func63, Try.ntmps63
  go_wp2
  go_ret
  exact ⟨by first | (rw [← HR.out]; rfl) | (rw [← HR2.out]; rfl) | (rw [HR.out]) | (rw [HR2.out]), rfl⟩
theorem sWay_any (d y : Int) (w : World) : Calls Try.prog 24 #[.int .i64 d, .int .i64 y] w fun e w' => e = .returned (.bool (wayOk d y)) ∧ w = w' := by
  unfold wayOk
  cases hd : decide ((0 : Int) ≤ d ∧ d ≤ 6)
  · have HD := hidH hd
    clear hd
    rw [Bool.false_and]
    go_enter Try.func24, Try.ntmps24
    go_wp2_with fail
    refine (sIn_any d 0 6 _ HD.out _).mono ?_; rintro e w1 ⟨rfl, rfl⟩
    go_wp2_with fail
    go_ret
    exact ⟨rfl, rfl⟩
  · have HD := hidH hd
    have HI := hidH (fun W => sIn_any y 0 2 _ rfl W)
    clear hd
    rw [Bool.true_and]
    generalize decide ((0 : Int) ≤ y ∧ y ≤ 2) = b at *
    go_enter Try.func24, Try.ntmps24
    go_wp2_with fail
    refine (sIn_any d 0 6 _ HD.out _).mono ?_; rintro e w1 ⟨rfl, rfl⟩
    go_wp2_with fail
    refine (HI.out _).mono ?_; rintro e w1 ⟨rfl, rfl⟩
    go_wp2_with fail
    go_ret
    exact ⟨rfl, rfl⟩
theorem sub_div (n u : Int) (hu : 0 < u) : (n - n % u) / u = n / u := by
  have h := Int.mul_ediv_add_emod n u
  rw [show n - n % u = u * (n / u) by omega, Int.mul_ediv_cancel_left _ (by omega)]
theorem sub_tdiv (n u : Int) (hu : 0 < u) : (n - n % u).tdiv u = n / u := by
  have h := Int.mul_ediv_add_emod n u
  rw [show n - n % u = u * (n / u) by omega, Int.mul_tdiv_cancel_left _ (by omega)]
theorem sRound0 (n : Int) (k : Nat) (hk : k ≤ 6) (h1 : -1000000000 ≤ n) (h2 : n ≤ 1000000000) (w : World) : Calls Try.prog 47 #[.int .i64 n, .int .i64 k, .int .i64 0] w fun e w' => e = .returned (.int .i64 (rndI n (tenP k) 0)) ∧ w = w' := by
  have hu : IsUnit (tenP k) := by have := unit_of (k : Int) (by omega) (by omega); rwa [Int.toNat_natCast] at this
  have HT := hidH (fun W => sTen_any k (by omega) W)
  generalize tenP k = u at *
  have ⟨hu1, hu2⟩ := hu.bd
  have HS := hidH (fun W => sRestU_any n u (by omega) hu2 W)
  have hd := div_bd n u (by omega) h1 h2
  have hm := mod_bd n u (by omega)
  have HS2 := hidH (fun W => sRestU_any (n / u) 2 (by omega) (by omega) W)
  have hsd := sub_div n u (by omega)
  have hst := sub_tdiv n u (by omega)
  have HR := hidH (show rndI n u 0 = n / u from by simp [rndI])
  rw [HR.out]
  clear hu
  generalize n / u = q at *
  generalize n % u = r at *
  go_enter Try.func47, Try.ntmps47
  go_wp2_with fail
  refine (HT.out _).mono ?_; rintro e w1 ⟨rfl, rfl⟩
  go_wp2_with fail
  refine (HS.out _).mono ?_; rintro e w1 ⟨rfl, rfl⟩
  go_wp2_with fail
  refine (HS.out _).mono ?_; rintro e w1 ⟨rfl, rfl⟩
  go_wp2_with fail
  go_ret
  exact ⟨rfl, rfl⟩
theorem sRound1 (n : Int) (k : Nat) (hk : k ≤ 6) (h1 : -1000000000 ≤ n) (h2 : n ≤ 1000000000) (w : World) : Calls Try.prog 47 #[.int .i64 n, .int .i64 k, .int .i64 1] w fun e w' => e = .returned (.int .i64 (rndI n (tenP k) 1)) ∧ w = w' := by
  have hu : IsUnit (tenP k) := by have := unit_of (k : Int) (by omega) (by omega); rwa [Int.toNat_natCast] at this
  have HT := hidH (fun W => sTen_any k (by omega) W)
  generalize tenP k = u at *
  have ⟨hu1, hu2⟩ := hu.bd
  have HS := hidH (fun W => sRestU_any n u (by omega) hu2 W)
  have hd := div_bd n u (by omega) h1 h2
  have hm := mod_bd n u (by omega)
  have HS2 := hidH (fun W => sRestU_any (n / u) 2 (by omega) (by omega) W)
  have hsd := sub_div n u (by omega)
  have hst := sub_tdiv n u (by omega)
  have HR := hidH (show rndI n u 1 = (if u < 2 * (n % u) ∨ 2 * (n % u) = u ∧ 0 < n then n / u + 1 else n / u) from by simp [rndI])
  rw [HR.out]
  clear hu
  generalize n / u = q at *
  generalize n % u = r at *
  by_cases c1 : u < 2 * r
  · rw [if_pos (Or.inl c1)]
    go_enter Try.func47, Try.ntmps47
    go_wp2_with fail
    refine (HT.out _).mono ?_; rintro e w1 ⟨rfl, rfl⟩
    go_wp2_with fail
    refine (HS.out _).mono ?_; rintro e w1 ⟨rfl, rfl⟩
    go_wp2_with fail
    refine (HS.out _).mono ?_; rintro e w1 ⟨rfl, rfl⟩
    go_wp2_with fail
    go_ret
    exact ⟨rfl, rfl⟩
  · by_cases c2 : 2 * r = u
    · by_cases c3 : 0 < n
      · rw [if_pos (Or.inr ⟨c2, c3⟩)]
        go_enter Try.func47, Try.ntmps47
        go_wp2_with fail
        refine (HT.out _).mono ?_; rintro e w1 ⟨rfl, rfl⟩
        go_wp2_with fail
        refine (HS.out _).mono ?_; rintro e w1 ⟨rfl, rfl⟩
        go_wp2_with fail
        refine (HS.out _).mono ?_; rintro e w1 ⟨rfl, rfl⟩
        go_wp2_with fail
        go_ret
        exact ⟨rfl, rfl⟩
      · rw [if_neg (by omega)]
        go_enter Try.func47, Try.ntmps47
        go_wp2_with fail
        refine (HT.out _).mono ?_; rintro e w1 ⟨rfl, rfl⟩
        go_wp2_with fail
        refine (HS.out _).mono ?_; rintro e w1 ⟨rfl, rfl⟩
        go_wp2_with fail
        refine (HS.out _).mono ?_; rintro e w1 ⟨rfl, rfl⟩
        go_wp2_with fail
        go_ret
        exact ⟨rfl, rfl⟩
    · rw [if_neg (by omega)]
      go_enter Try.func47, Try.ntmps47
      go_wp2_with fail
      refine (HT.out _).mono ?_; rintro e w1 ⟨rfl, rfl⟩
      go_wp2_with fail
      refine (HS.out _).mono ?_; rintro e w1 ⟨rfl, rfl⟩
      go_wp2_with fail
      refine (HS.out _).mono ?_; rintro e w1 ⟨rfl, rfl⟩
      go_wp2_with fail
      go_ret
      exact ⟨rfl, rfl⟩
theorem sRound2 (n : Int) (k : Nat) (hk : k ≤ 6) (h1 : -1000000000 ≤ n) (h2 : n ≤ 1000000000) (w : World) : Calls Try.prog 47 #[.int .i64 n, .int .i64 k, .int .i64 2] w fun e w' => e = .returned (.int .i64 (rndI n (tenP k) 2)) ∧ w = w' := by
  have hu : IsUnit (tenP k) := by have := unit_of (k : Int) (by omega) (by omega); rwa [Int.toNat_natCast] at this
  have HT := hidH (fun W => sTen_any k (by omega) W)
  generalize tenP k = u at *
  have ⟨hu1, hu2⟩ := hu.bd
  have HS := hidH (fun W => sRestU_any n u (by omega) hu2 W)
  have hd := div_bd n u (by omega) h1 h2
  have hm := mod_bd n u (by omega)
  have HS2 := hidH (fun W => sRestU_any (n / u) 2 (by omega) (by omega) W)
  have hsd := sub_div n u (by omega)
  have hst := sub_tdiv n u (by omega)
  have HR := hidH (show rndI n u 2 = (if u < 2 * (n % u) ∨ 2 * (n % u) = u ∧ n / u % 2 ≠ 0 then n / u + 1 else n / u) from by simp [rndI])
  rw [HR.out]
  clear hu
  generalize n / u = q at *
  generalize n % u = r at *
  by_cases c1 : u < 2 * r
  · rw [if_pos (Or.inl c1)]
    go_enter Try.func47, Try.ntmps47
    go_wp2_with fail
    refine (HT.out _).mono ?_; rintro e w1 ⟨rfl, rfl⟩
    go_wp2_with fail
    refine (HS.out _).mono ?_; rintro e w1 ⟨rfl, rfl⟩
    go_wp2_with fail
    refine (HS.out _).mono ?_; rintro e w1 ⟨rfl, rfl⟩
    go_wp2_with fail
    go_ret
    exact ⟨rfl, rfl⟩
  · by_cases c2 : 2 * r = u
    · by_cases c3 : q % 2 ≠ 0
      · rw [if_pos (Or.inr ⟨c2, c3⟩)]
        have c4 : q % 2 = 1 := by omega
        rw [c4] at HS2
        go_enter Try.func47, Try.ntmps47
        go_wp2_with fail
        refine (HT.out _).mono ?_; rintro e w1 ⟨rfl, rfl⟩
        go_wp2_with fail
        refine (HS.out _).mono ?_; rintro e w1 ⟨rfl, rfl⟩
        go_wp2_with fail
        refine (HS.out _).mono ?_; rintro e w1 ⟨rfl, rfl⟩
        go_wp2_with fail
        refine (HS2.out _).mono ?_; rintro e w1 ⟨rfl, rfl⟩
        go_wp2_with fail
        go_ret
        exact ⟨rfl, rfl⟩
      · rw [if_neg (by omega)]
        have c4 : q % 2 = 0 := by omega
        rw [c4] at HS2
        have c5 : q + 0 = q := by omega
        go_enter Try.func47, Try.ntmps47
        go_wp2_with fail
        refine (HT.out _).mono ?_; rintro e w1 ⟨rfl, rfl⟩
        go_wp2_with fail
        refine (HS.out _).mono ?_; rintro e w1 ⟨rfl, rfl⟩
        go_wp2_with fail
        refine (HS.out _).mono ?_; rintro e w1 ⟨rfl, rfl⟩
        go_wp2_with fail
        refine (HS2.out _).mono ?_; rintro e w1 ⟨rfl, rfl⟩
        go_wp2_with fail
        go_ret
        exact ⟨rfl, rfl⟩
    · rw [if_neg (by omega)]
      go_enter Try.func47, Try.ntmps47
      go_wp2_with fail
      refine (HT.out _).mono ?_; rintro e w1 ⟨rfl, rfl⟩
      go_wp2_with fail
      refine (HS.out _).mono ?_; rintro e w1 ⟨rfl, rfl⟩
      go_wp2_with fail
      refine (HS.out _).mono ?_; rintro e w1 ⟨rfl, rfl⟩
      go_wp2_with fail
      go_ret
      exact ⟨rfl, rfl⟩
theorem sRound_any (n : Int) (k : Nat) (way : Int) (hk : k ≤ 6) (h1 : -1000000000 ≤ n) (h2 : n ≤ 1000000000) (w0 : 0 ≤ way) (w2 : way ≤ 2) (w : World) : Calls Try.prog 47 #[.int .i64 n, .int .i64 k, .int .i64 way] w fun e w' => e = .returned (.int .i64 (rndI n (tenP k) way)) ∧ w = w' := by
  rcases (show way = 0 ∨ way = 1 ∨ way = 2 by omega) with rfl | rfl | rfl
  · exact sRound0 n k hk h1 h2 w
  · exact sRound1 n k hk h1 h2 w
  · exact sRound2 n k hk h1 h2 w
end Go.Proofs.Ytieealgmmkkgoaa
