/-
  The walk of the exact law of GreedyPlan. Condition: slices of at most 1048576 numbers.
-/
import Derived.Test.YtgnoclnenhmakaaPlfR
import Derived.Test.YtgnoclnenhmakaaSl
import Derived.Test.YtgnoclnenhmakaaPlanSg
namespace Go.Proofs.Ytgnoclnenhmakaa
set_option maxRecDepth 4000
open Go.RowKit
theorem resL_le (l : List Int) : (resL l).length ≤ l.length := by unfold resL; split <;> simp
theorem interA_7 (zs : List Int) : (interA zs).length ≤ 7 := by
  unfold interA
  split
  · rename_i h
    refine Nat.le_trans (resL_le _) ?_
    rw [leadW_length]
    have ⟨a, b⟩ := of_decide_eq_true h
    unfold interN
    omega
  · simp
theorem segP_7 (zs : List Int) (f c d : Int) : (segP zs f c d).length ≤ 7 := by
  unfold segP
  split
  · exact interA_7 _
  · simp
theorem lenS_le (cs : List (Int × List Int)) (m : Nat) (h : ∀ c ys, (c, ys) ∈ cs → ys.length ≤ m) : lenS cs ≤ cs.length * m := by
  induction cs with
  | nil => simp [lenS]
  | cons s cs ih =>
    have h1 := h s.1 s.2 List.mem_cons_self
    have h2 := ih fun c ys hm => h c ys (List.mem_cons_of_mem _ hm)
    unfold lenS at *
    rw [List.map_cons, List.sum_cons, List.length_cons, Nat.succ_mul]
    omega
theorem plF_7 (zs : List Int) (d f i : Nat) (c : Int) (ys : List Int) (h : (c, ys) ∈ plF zs d f i) : ys.length ≤ 7 := by
  induction f generalizing i with
  | zero => cases h
  | succ f ih =>
    rw [plF] at h
    split at h
    · rcases List.mem_cons.1 h with e | e
      · injection e with e1 e2
        rw [e2]
        exact segP_7 _ _ _ _
      · exact ih _ e
    · cases h
theorem greedyG_tot (zs : List Int) (d : Int) : totS (greedyG zs d) ≤ 1048576 := by
  have h1 := greedyG_small zs d
  have h2 := lenS_le (greedyG zs d) 7 fun c ys h => by
    unfold greedyG at h
    split at h
    · exact plF_7 _ _ _ _ _ _ h
    · cases h
  unfold totS
  omega
end Go.Proofs.Ytgnoclnenhmakaa
