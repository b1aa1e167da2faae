/-
  The walk of a law: shifting by one more adds to each difference the next higher one. No conditions but that the bytes that came in can be read.
-/
import Derived.Test.YtgnoclnenhmakaaKitP
import Derived.Test.YtgnoclnenhmakaaDeFns
import Derived.Test.YtgnoclnenhmakaaPolyFa
namespace Go.Proofs.Ytgnoclnenhmakaa
set_option maxRecDepth 4000
open Go.RowKit
theorem shift_ways (zs : List Int) (n : Int) : (shiftB zs n = true ∧ polyOk zs = true ∧ -200 ≤ n ∧ n ≤ 200 ∧ polyOk (shiftL zs n zs.length) = true ∧ shiftA zs n = shiftL zs n zs.length) ∨ (shiftB zs n = false ∧ shiftA zs n = []) := by
  unfold shiftB shiftA
  cases h : polyOk zs
  · exact .inr ⟨rfl, rfl⟩
  · cases h2 : inB 200 n
    · exact .inr ⟨rfl, rfl⟩
    · have hb := of_decide_eq_true h2
      cases h3 : polyOk (shiftL zs n zs.length)
      · exact .inr ⟨rfl, by show resL _ = _; rw [resL, h3]; rfl⟩
      · exact .inl ⟨rfl, rfl, hb.1, hb.2, rfl, by show resL _ = _; rw [resL, h3]; rfl⟩
theorem last_zero (zs : List Int) (n : Int) (k : Nat) (h : zs.length ≤ k + 1) : evP (zs.drop k) n + 0 = evP (zs.drop k) (n + 1) := by
  rw [← shift_step, List.drop_eq_nil_of_le h]; rfl
end Go.Proofs.Ytgnoclnenhmakaa
