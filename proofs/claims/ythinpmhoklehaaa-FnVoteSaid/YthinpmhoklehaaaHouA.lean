/-
  QuarterSquare: the program and the model, at every argument. No conditions.
-/
import Derived.Test.YthinpmhoklehaaaRndA
import Derived.Test.YthinpmhoklehaaaIn
import Derived.Test.YthinpmhoklehaaaSl
namespace Go.Proofs.Ythinpmhoklehaaa
set_option maxRecDepth 4000
open Go.RowKit
/-- An argument of quarter squares. -/
def qrtOk (n : Int) : Bool := decide ((0 : Int) ≤ n ∧ n ≤ 59)
def qsD (p : Int) : Int := p / 4
/-- The quarter square of a number. -/
def qsA (n : Int) : Int := if qrtOk n then qsD (n * n) else -1
theorem qs_sq (n : Int) (h : qrtOk n = true) : 0 ≤ n * n ∧ n * n ≤ 3481 ∧ 0 ≤ qsD (n * n) := by
  have ⟨a, b⟩ := of_decide_eq_true h
  have h1 : 0 ≤ n * n := Int.mul_nonneg a a
  have h2 : n * n ≤ 59 * 59 := Int.mul_le_mul b b a (by omega)
  exact ⟨h1, by omega, Int.ediv_nonneg h1 (by omega)⟩
theorem qsAt (n : Int) (w : World) : Calls Try.prog 37 #[.int .i64 n] w fun e w' => e = .returned (.int .i64 (qsA n)) ∧ w' = w := by
  unfold qsA
  cases h : qrtOk n
  · have H1 := hidH (fun W' => between_any n 0 59 false h W')
    clear h
    go_enter Try.func37, Try.ntmps37
    go_wp2_with fail
    refine (H1.out _).mono ?_; rintro e w1 ⟨rfl, rfl⟩
    go_wp2_with fail
    go_ret
    exact ⟨rfl, rfl⟩
  · have H1 := hidH (fun W' => between_any n 0 59 true h W')
    obtain ⟨h0, h1, h2⟩ := qs_sq n h
    obtain ⟨P, hP⟩ : ∃ P, P = n * n := ⟨_, rfl⟩
    rw [← hP] at h0 h1 h2
    have HW1 := hidH (show wrap64 (n * n) = P by rw [← hP]; exact IntWalk.wrap64_in _ (by omega))
    have HW2 := hidH (show IntKind.i64.wrap (n * n) = P by rw [← hP]; exact IntWalk.i64_in _ (by omega))
    rw [← hP]
    clear h hP
    go_enter Try.func37, Try.ntmps37
    go_wp2_with fail
    refine (H1.out _).mono ?_; rintro e w1 ⟨rfl, rfl⟩
    have hw1 := HW1.out
    have hw2 := HW2.out
    go_wp2_with fail
    go_ret
    refine ⟨?_, rfl⟩
    first | rfl | (simp [qsD, Int.tdiv_eq_ediv_of_nonneg h0])
theorem qs_any (n : Int) (w : World) : Calls Try.prog 37 #[.int .i64 n] w (Gives (.int .i64 (qsA n)) w) :=
  (qsAt n w).mono fun _ _ ⟨h1, h2⟩ => ⟨h1, by rw [h2]; exact Below.refl _ _⟩
end Go.Proofs.Ythinpmhoklehaaa
