/-
  The model's search for a single error: its parts and FindError. No conditions but that slices fit in memory.
-/
import Derived.Test.YthinpmhoklehaaaErrFm
namespace Go.Proofs.Ythinpmhoklehaaa
set_option maxRecDepth 4000
open Go.RowKit
/-- The model's guess. -/
def guessS (row : List Int) (o at_ : Nat) : Int := if (row.getD (at_ - o) 0).tmod (coefN o at_ (at_ - o)) = 0 then guessN row o at_ else 0
/-- All differences are explained by an amount. -/
def explA (row : List Int) (o at_ : Nat) (a : Int) : Bool := decide (row = errL o at_ a row.length)
theorem expl_guess (row : List Int) (o at_ : Nat) (_ho : o ≤ 7) (h : at_ < row.length + o) (h0 : 0 < row.length) : explB row o at_ = (decide (guessS row o at_ ≠ 0) && explA row o at_ (guessS row o at_)) := by
  unfold guessS
  split
  · rfl
  · rename_i hm
    rw [show decide ((0 : Int) ≠ 0) = false from rfl, Bool.false_and, explB]
    cases he : decide (row = errL o at_ (guessN row o at_) row.length)
    · rw [Bool.and_false]
    · have he := of_decide_eq_true he
      exfalso
      apply hm
      have e : row.getD (at_ - o) 0 = coefN o at_ (at_ - o) * guessN row o at_ := by
        have := congrArg (fun l => l.getD (at_ - o) 0) he
        simp only [err_getD o at_ (guessN row o at_) row.length (at_ - o) (by omega)] at this
        exact this
      rw [e, Int.mul_tmod_right]
theorem guess_bd (row : List Int) (o at_ : Nat) (A : Nat) (h : ∀ x ∈ row, x.natAbs ≤ A) : (guessN row o at_).natAbs ≤ A ∧ (guessS row o at_).natAbs ≤ A := by
  have h1 : (row.getD (at_ - o) 0).natAbs ≤ A := by
    rw [List.getD_eq_getElem?_getD]
    cases hg : row[at_ - o]? with
    | none => simp
    | some z => exact h z (List.mem_of_getElem? hg)
  have h2 : (guessN row o at_).natAbs ≤ A := by
    unfold guessN
    rw [Int.natAbs_tdiv]
    exact Nat.le_trans (Nat.div_le_self _ _) h1
  refine ⟨h2, ?_⟩
  unfold guessS
  split
  · exact h2
  · simp
theorem eq_errL (row : List Int) (o at_ : Nat) (a : Int) (h : ∀ (j : Nat) z, j < row.length → row[j]? = some z → z = coefN o at_ j * a) : row = errL o at_ a row.length := by
  refine list_ext (by rw [errL_length]) fun i x y hx hy => ?_
  have hi := (List.getElem?_eq_some_iff.1 hx).1
  rw [errL_get o at_ a row.length i hi] at hy
  injection hy with hy
  rw [← hy]
  exact h i x hi hx
theorem ne_errL (row : List Int) (o at_ : Nat) (a : Int) (k : Nat) (z : Int) (hz : row[k]? = some z) (h : z ≠ coefN o at_ k * a) : explA row o at_ a = false := by
  refine decide_eq_false fun he => h ?_
  have hi := (List.getElem?_eq_some_iff.1 hz).1
  rw [he] at hz
  rw [errL_get o at_ a row.length k hi] at hz
  injection hz with hz
  exact hz.symm
theorem drewN_add4 (w : World) (a b : Nat) : (w.drewN a).drewN b = w.drewN (a + b) := by simp [World.drewN, Nat.add_assoc]
end Go.Proofs.Ythinpmhoklehaaa
