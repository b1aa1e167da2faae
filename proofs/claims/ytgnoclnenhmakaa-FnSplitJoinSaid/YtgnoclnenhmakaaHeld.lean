/-
  Steps through a region that draws its order, one operation after the other: for operations that a guard leaves out, that only read, and calls. No conditions.
-/
import Derived.Test.YtgnoclnenhmakaaBase
import Derived.BigRegion
import Derived.Deep.RegionHeld3
namespace Go.Proofs.Ytgnoclnenhmakaa
set_option maxRecDepth 4000
open Go.RowKit
theorem offG {P : Program} {md : Region.Mode} {ops : Array Oper} {Q : Exit → Act → World → Prop} {S : World → Prop} (i : Nat) (d : Option Tmp) {fuel : Nat} {listed : Array Bool} {a : Act} {w : World}
    (hs : Region.noSelect ops = true) (hf : Region.free md ops listed i = true) (hr : (Region.ready md ops listed).contains i = true)
    (hQ : ∀ c (a : Act) w, Q (.panic c) (a.put d undef) w → Q (.panic c) a w) (hd : ops[i]?.map (fun o => (o.dst, Region.wanted o (yielded ops a.tmps))) = some (d, false)) (hS : S w)
    (h : wpAnyH P md ops Q S fuel (listed.setIfInBounds i true) (a.put d undef) w) : wpAnyH P md ops Q S (fuel + 1) listed a w := by
  cases ho : ops[i]? with
  | none => rw [ho] at hd; cases hd
  | some o =>
    rw [ho] at hd
    have h1 := Option.some.inj hd
    have h2 : o.dst = d := congrArg Prod.fst h1
    have h3 : Region.wanted o (yielded ops a.tmps) = false := congrArg Prod.snd h1
    subst h2
    exact wpAnyH_take ho hs hf hr hQ (Or.inr ⟨h3, rfl⟩) hS h
theorem onG {P : Program} {md : Region.Mode} {ops : Array Oper} {Q : Exit → Act → World → Prop} {S : World → Prop} (i : Nat) (d : Option Tmp) {v : Value} {fuel : Nat} {listed : Array Bool} {a : Act} {w : World}
    (hs : Region.noSelect ops = true) (hf : Region.free md ops listed i = true) (hr : (Region.ready md ops listed).contains i = true)
    (hQ : ∀ c (a : Act) w, Q (.panic c) (a.put d v) w → Q (.panic c) a w) (hd : ops[i]?.map (fun o => (o.dst, Region.wanted o (yielded ops a.tmps))) = some (d, true)) (hS : S w)
    (hy : ∀ o, ops[i]? = some o → ∀ w, S w → (execOp a.eval o).run P w = .ok (.value v) w)
    (h : wpAnyH P md ops Q S fuel (listed.setIfInBounds i true) (a.put d v) w) : wpAnyH P md ops Q S (fuel + 1) listed a w := by
  cases ho : ops[i]? with
  | none => rw [ho] at hd; cases hd
  | some o =>
    rw [ho] at hd
    have h1 := Option.some.inj hd
    have h2 : o.dst = d := congrArg Prod.fst h1
    have h3 : Region.wanted o (yielded ops a.tmps) = true := congrArg Prod.snd h1
    subst h2
    exact wpAnyH_take ho hs hf hr hQ (Or.inl ⟨h3, hy o ho⟩) hS h
theorem callG {P : Program} {md : Region.Mode} {ops : Array Oper} {Q : Exit → Act → World → Prop} {S : World → Prop} (i : Nat) {fuel : Nat} {listed : Array Bool} {a : Act} {w : World}
    (hr : Region.ready md ops listed = [i])
    (h : ∀ o, ops[i]? = some o → ∀ K' : Act → World → Prop, Shut (∀ a w, S w → (S w → wpAnyH P md ops Q S fuel (listed.setIfInBounds i true) a w) → K' a w) → if Region.wanted o (yielded ops a.tmps) = true then Oper.wp P o a w K' Q else K' (a.put o.dst undef) w) : wpAnyH P md ops Q S (fuel + 1) listed a w := by
  have hm : i ∈ Region.ready md ops listed := by rw [hr]; exact List.mem_singleton.2 rfl
  obtain ⟨_, o, ho, _⟩ := mem_ready.1 hm
  exact wpAnyH_ready hr (by simp) (AllReadyH.cons ho (h o ho) AllReadyH.nil)
theorem callG2 {P : Program} {md : Region.Mode} {ops : Array Oper} {Q : Exit → Act → World → Prop} {S : World → Prop} (i j : Nat) {fuel : Nat} {listed : Array Bool} {a : Act} {w : World}
    (hr : Region.ready md ops listed = [i, j])
    (h1 : ∀ o, ops[i]? = some o → ∀ K' : Act → World → Prop, Shut (∀ a w, S w → (S w → wpAnyH P md ops Q S fuel (listed.setIfInBounds i true) a w) → K' a w) → if Region.wanted o (yielded ops a.tmps) = true then Oper.wp P o a w K' Q else K' (a.put o.dst undef) w)
    (h2 : ∀ o, ops[j]? = some o → ∀ K' : Act → World → Prop, Shut (∀ a w, S w → (S w → wpAnyH P md ops Q S fuel (listed.setIfInBounds j true) a w) → K' a w) → if Region.wanted o (yielded ops a.tmps) = true then Oper.wp P o a w K' Q else K' (a.put o.dst undef) w) : wpAnyH P md ops Q S (fuel + 1) listed a w := by
  have m1 : i ∈ Region.ready md ops listed := by rw [hr]; simp
  have m2 : j ∈ Region.ready md ops listed := by rw [hr]; simp
  obtain ⟨_, o1, ho1, _⟩ := mem_ready.1 m1
  obtain ⟨_, o2, ho2, _⟩ := mem_ready.1 m2
  exact wpAnyH_ready hr (by simp) (AllReadyH.cons ho1 (h1 o1 ho1) (AllReadyH.cons ho2 (h2 o2 ho2) AllReadyH.nil))
end Go.Proofs.Ytgnoclnenhmakaa
