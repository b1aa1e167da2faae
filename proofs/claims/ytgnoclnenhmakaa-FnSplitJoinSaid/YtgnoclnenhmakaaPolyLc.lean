/-
  The walk of a law: the next value is the value plus that of the differences, and at 0 it is the first difference. No conditions but that the bytes that came in can be read.
-/
import Derived.Test.YtgnoclnenhmakaaKitP
import Derived.Test.YtgnoclnenhmakaaPolyE
import Derived.Test.YtgnoclnenhmakaaPolyG
import Derived.Deep.RegionWith
namespace Go.Proofs.Ytgnoclnenhmakaa
set_option maxRecDepth 4000
open Go.RowKit
theorem evA_ok (zs : List Int) (n : Int) (hz : polyOk zs = true) (h1 : -200 ≤ n) (h2 : n ≤ 200) : evA zs n = evP zs n := by
  rw [evA, hz, show inB 200 n = true from decide_eq_true ⟨h1, h2⟩]; rfl
theorem evB_ways (zs : List Int) (n : Int) : (evB zs n = true ∧ polyOk zs = true ∧ -200 ≤ n ∧ n ≤ 200) ∨ evB zs n = false := by
  unfold evB
  cases hz : polyOk zs
  · exact .inr rfl
  · cases hn : inB 200 n
    · exact .inr rfl
    · have := of_decide_eq_true hn
      exact .inl ⟨rfl, rfl, this.1, this.2⟩
theorem diff_ok (zs : List Int) (hz : polyOk zs = true) : polyOk (diffA zs) = true := by
  have ⟨h1, h2, h3⟩ := (listOk_iff _ _ _).1 hz
  unfold diffA
  rw [hz, if_pos rfl]
  split
  · decide
  · refine (listOk_iff _ _ _).2 ⟨by rw [List.length_tail]; omega, by rw [List.length_tail]; omega, fun x hx => h3 x (List.mem_of_mem_tail hx)⟩
theorem diff_ev (zs : List Int) (n : Int) (hz : polyOk zs = true) : evP (diffA zs) n = evP zs.tail n := by
  unfold diffA
  rw [hz, if_pos rfl]
  split
  · rename_i h
    obtain ⟨x, rfl⟩ := List.length_eq_one_iff.1 h
    simp [evP, ev]
  · rfl
theorem diff_law (zs : List Int) (n : Int) (hz : polyOk zs = true) (h1 : -200 ≤ n) (h2 : n < 200) : evA zs (n + 1) = evA zs n + evA (diffA zs) n := by
  rw [evA_ok zs _ hz (by omega) (by omega), evA_ok zs _ hz h1 (by omega), evA_ok _ _ (diff_ok zs hz) h1 (by omega), evP_step, diff_ev zs n hz]
theorem first_law (zs : List Int) (x : Int) (hx : zs[0]? = some x) (hz : polyOk zs = true) : evA zs 0 = x := by
  rw [evA_ok zs 0 hz (by omega) (by omega)]
  cases zs with
  | nil => simp at hx
  | cons y zs => simp at hx; subst hx; exact evP_zero _ _
theorem evA_bd (zs : List Int) (n : Int) : -900000000000000000 ≤ evA zs n ∧ evA zs n ≤ 900000000000000000 := by
  unfold evA
  split
  · rename_i h
    simp only [Bool.and_eq_true] at h
    have hn := of_decide_eq_true h.2
    exact (polyOk_small _ h.1).2.bd n (by omega) (by omega)
  · omega
end Go.Proofs.Ytgnoclnenhmakaa
