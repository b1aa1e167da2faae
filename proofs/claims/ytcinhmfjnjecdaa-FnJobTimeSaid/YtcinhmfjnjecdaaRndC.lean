/-
  Rounding: the model, on single numbers, at every argument. No conditions.
-/
import Derived.Test.YtcinhmfjnjecdaaRndB
import Derived.Test.YtcinhmfjnjecdaaSpecA
namespace Go.Proofs.Ytcinhmfjnjecdaa
set_option maxRecDepth 4000
open Go.RowKit
theorem rest_twice (n u : Int) (hu : 0 < u) : (n.tmod u + u).tmod u = n % u := by
  have h := Int.lt_tmod_of_pos n hu
  rw [Int.tmod_eq_emod_of_nonneg (by omega), Int.add_emod_right, Int.tmod_def, Int.sub_mul_emod_self_left]
theorem rest_twice2 (n u : Int) : (n.tmod u + u) % u = n % u := by
  rw [Int.add_emod_right, Int.tmod_def, Int.sub_mul_emod_self_left]
theorem sWay_any (d y : Int) (w : World) : Calls Try.prog 62 #[.int .i64 d, .int .i64 y] w fun e w' => e = .returned (.bool (wayOk d y)) ∧ w = w' := by
  unfold wayOk
  cases hd : decide ((0 : Int) ≤ d ∧ d ≤ 6)
  · have HD := hidH hd
    clear hd
    rw [Bool.false_and]
    go_enter Try.func62, Try.ntmps62
    go_wp2_with fail
    refine (sIn_any d 0 6 _ HD.out _).mono ?_; rintro e w1 ⟨rfl, rfl⟩
    go_wp2_with fail
    go_ret
    exact ⟨rfl, rfl⟩
  · have HD := hidH hd
    have HI := hidH (fun W => sIn_any y 0 2 _ rfl W)
    clear hd
    rw [Bool.true_and]
    generalize decide ((0 : Int) ≤ y ∧ y ≤ 2) = b at *
    go_enter Try.func62, Try.ntmps62
    go_wp2_with fail
    refine (sIn_any d 0 6 _ HD.out _).mono ?_; rintro e w1 ⟨rfl, rfl⟩
    go_wp2_with fail
    refine (HI.out _).mono ?_; rintro e w1 ⟨rfl, rfl⟩
    go_wp2_with fail
    go_ret
    exact ⟨rfl, rfl⟩
theorem sub_div (n u : Int) (hu : 0 < u) : (n - n % u) / u = n / u := by
  have h := Int.mul_ediv_add_emod n u
  rw [show n - n % u = u * (n / u) by omega, Int.mul_ediv_cancel_left _ (by omega)]
theorem sub_tdiv (n u : Int) (hu : 0 < u) : (n - n % u).tdiv u = n / u := by
  have h := Int.mul_ediv_add_emod n u
  rw [show n - n % u = u * (n / u) by omega, Int.mul_tdiv_cancel_left _ (by omega)]
end Go.Proofs.Ytcinhmfjnjecdaa
