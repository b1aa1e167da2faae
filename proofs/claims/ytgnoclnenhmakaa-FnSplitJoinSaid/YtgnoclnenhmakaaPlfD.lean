/-
  The walk of the law FnGreedyDegree. No conditions but that slices fit in memory.
-/
import Derived.Test.YtgnoclnenhmakaaPlfB
import Derived.Test.YtgnoclnenhmakaaPlanF
import Derived.Test.YtgnoclnenhmakaaDeFns
namespace Go.Proofs.Ytgnoclnenhmakaa
set_option maxRecDepth 4000
open Go.RowKit
theorem fewA_yes {zs : List Int} {n : Int} (h : smallOk zs = true) (hd : degOk n = true) : fewA zs n = ((fewN (n.toNat + 1) zs : Nat) : Int) := by unfold fewA; rw [h, hd]; rfl
theorem fewA_no {zs : List Int} {n : Int} (h : (smallOk zs && degOk n) = false) : fewA zs n = -1 := by unfold fewA; rw [h]; rfl
theorem few_bd {zs : List Int} (n : Int) (h : smallOk zs = true) : fewN (n.toNat + 1) zs ≤ 60 := by
  have := few_le (n.toNat + 1) zs (by omega)
  have := ((small_iff zs).1 h).2.1
  omega
/-- With a higher degree no more segments are needed. -/
theorem few_degree {zs : List Int} {n : Int} (h : smallOk zs = true) (hd : degOk n = true) (h6 : n ≠ 6) : 1 ≤ fewA zs (n + 1) ∧ fewA zs (n + 1) ≤ fewA zs n ∧ fewA zs n ≤ (zs.length : Int) ∧ fewA zs n ≤ 60 := by
  have ⟨a, b⟩ := of_decide_eq_true hd
  have hd1 : degOk (n + 1) = true := decide_eq_true (by omega)
  rw [fewA_yes h hd, fewA_yes h hd1, show (n + 1).toNat = n.toNat + 1 by omega]
  have h1 := few_more (n.toNat + 1) zs (by omega)
  have h2 := few_le (n.toNat + 1) zs (by omega)
  have h3 := few_pos (n.toNat + 1 + 1) zs (by omega) ((small_iff zs).1 h).1
  have h4 := few_bd n h
  omega
/-- Parts of a table need nearly as many segments. -/
theorem few_parts {zs : List Int} {n : Int} (h : smallOk zs = true) (hd : degOk n = true) (h2 : 2 ≤ zs.length) (q : Nat) (hq1 : 1 ≤ q) (hq : q < zs.length) :
    (fewA (zs.take (zs.length - 1)) n = fewA zs n ∨ fewA (zs.take (zs.length - 1)) n = fewA zs n - 1) ∧ (fewA (zs.drop 1) n = fewA zs n ∨ fewA (zs.drop 1) n = fewA zs n - 1) ∧ fewA zs n ≤ fewA (zs.take q) n + fewA (zs.drop q) n ∧ fewA (zs.take q) n + fewA (zs.drop q) n ≤ fewA zs n + 1 ∧ 0 ≤ fewA zs n ∧ fewA zs n ≤ 60 ∧ 0 ≤ fewA (zs.take q) n ∧ 0 ≤ fewA (zs.drop q) n := by
  rw [fewA_yes h hd, fewA_yes (small_take zs h _ (by omega)) hd, fewA_yes (small_drop zs h 1 (by omega)) hd, fewA_yes (small_take zs h q hq1) hd, fewA_yes (small_drop zs h q hq) hd]
  have a := few_take (n.toNat + 1) zs (zs.length - 1) (by omega) (by omega)
  rw [few_last (n.toNat + 1) zs (by omega) (by omega)] at a
  have b := few_first (n.toNat + 1) zs (by omega) (by omega)
  have c := few_take (n.toNat + 1) zs q (by omega) hq
  have e := few_bd n h
  omega
/-- A drawn slice of numbers and a degree. -/
def DrawTd (w : World) (e : Ending) (w' : World) : Prop := ∃ (v : Value) (zs : List Int) (d : Int), e = .returned (.tuple #[v, .int .i64 d]) ∧ Lies w' 0 w'.heap.size v zs ∧ zs.length ≤ 61 ∧ -1 ≤ d ∧ d ≤ 7 ∧ Below w.heap.size w w'
end Go.Proofs.Ytgnoclnenhmakaa
