/-
  DiagnoseSlip: the program, at every argument. No conditions but that slices fit in memory.
-/
import Derived.Test.YthinpmhoklehaaaErrE
import Derived.Deep.LoopGhost
import Derived.BigRegion
namespace Go.Proofs.Ythinpmhoklehaaa
set_option maxRecDepth 4000
open Go.RowKit
theorem results_tmp4 {fn : Func} {t u v x : Tmp} (h : fn.results = #[.tmp t, .tmp u, .tmp v, .tmp x]) (tmps : Array Value) (P : Program) (w : World) :
    (results fn tmps).run P w = .ok (.tuple #[tmps.getD t undef, tmps.getD u undef, tmps.getD v undef, tmps.getD x undef]) w := by
  simp [results, h]
theorem drewN_add (w : World) (a b : Nat) : (w.drewN a).drewN b = w.drewN (a + b) := by simp [World.drewN, Nat.add_assoc]
theorem getD_get {D : List Int} {k : Nat} (h : k < D.length) : D[k]? = some (D.getD k 0) := by
  rw [List.getD_eq_getElem?_getD, List.getElem?_eq_getElem h]; rfl
theorem same_not {D : List Int} {c k : Nat} (hc : c ≤ fnz D) (h1 : fnz D ≤ k) (h2 : k < D.length) (h : D.getD k 0 ≠ effN c (fnz D - c) (D.getD (fnz D) 0) k) : sameC D (fnz D) c = false := by
  cases e : sameC D (fnz D) c
  · rfl
  · exact absurd ((sameC_from D c hc).1 e k h1 h2) h
theorem same_yes {D : List Int} {c : Nat} (hc : c ≤ fnz D) (h : ∀ n, fnz D ≤ n → n < D.length → D.getD n 0 = effN c (fnz D - c) (D.getD (fnz D) 0) n) : sameC D (fnz D) c = true := by
  exact (sameC_from D c hc).2 h
end Go.Proofs.Ythinpmhoklehaaa
