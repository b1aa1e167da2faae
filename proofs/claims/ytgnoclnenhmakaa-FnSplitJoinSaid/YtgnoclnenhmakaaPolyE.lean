/-
  Binomial and EvalPoly, the program and the model, at every argument. No conditions but that slices fit in memory.
-/
import Derived.Test.YtgnoclnenhmakaaPolyI
namespace Go.Proofs.Ytgnoclnenhmakaa
set_option maxRecDepth 4000
open Go.RowKit
theorem inB_200 (n : Int) (h : inB 200 n = true) : -200 ≤ n ∧ n ≤ 200 := of_decide_eq_true h
/-- What Binomial answers. -/
theorem binom_cases (n k : Int) : (∃ j : Nat, k = j ∧ inB 200 n = true ∧ j ≤ 6) ∨ (inB 200 n = false ∨ k < 0 ∨ 6 < k) := by
  by_cases hk : 0 ≤ k ∧ k ≤ 6
  · obtain ⟨j, rfl⟩ := Int.eq_ofNat_of_zero_le hk.1
    cases h : inB 200 n
    · exact .inr (.inl rfl)
    · exact .inl ⟨j, rfl, rfl, by omega⟩
  · exact .inr (.inr (by omega))
/-- What EvalPoly answers. -/
def evA (zs : List Int) (n : Int) : Int := if polyOk zs && inB 200 n then evP zs n else 0
def evB (zs : List Int) (n : Int) : Bool := polyOk zs && inB 200 n
end Go.Proofs.Ytgnoclnenhmakaa
