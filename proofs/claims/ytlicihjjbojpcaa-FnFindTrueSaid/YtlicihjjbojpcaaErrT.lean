/-
  The map of entries by syndromes: its keys and what it reads as. No conditions but bounds of numbers.
-/
import Derived.Test.YtlicihjjbojpcaaErrFm
import Derived.Maps.OwnSet
import Derived.Maps.Views
import Derived.DeepKeys4
import Derived.MapViews
import Derived.WideKeyArgs2
namespace Go.Proofs.Ytlicihjjbojpcaa
set_option maxRecDepth 4000
open Go.RowKit Go.Maps
/-- A syndrome as a value. -/
def synV (s : Nat × (Int × Int)) : Value := .agg #[.int .i64 (s.1 : Int), .int .i64 s.2.1, .int .i64 s.2.2]
theorem synLaid : laidOutB Try.prog = true := by kernel_rfl
theorem synRow : (65 : TypeId) < Try.prog.types.size := of_decide_eq_true (by kernel_rfl)
theorem synWide : (match Try.prog.underlying 65 with | some (.array _ _) | some (.struct _) => true | _ => false) = true := by kernel_rfl
theorem synDeep : Try.prog.keyTypeAt (Try.prog.types.size + 1) 65 = true := by kernel_rfl
theorem synLaw : Keyed Try.prog 65 := Keyed.of_law (deep_law_laid synLaid (m := 2) (by omega) synRow (by kernel_rfl) synWide)
theorem synCells : Try.prog.cellsOf 65 = 3 := by kernel_rfl
theorem synInt : Try.prog.cellsOf 3 = 1 := by kernel_rfl
theorem synFormed (s : Nat × (Int × Int)) : (synV s).formed Try.prog 65 = true := by
  simp [synV, Value.formed, Try.underlying65, synCells]
/-- The numbers of a syndrome are machine numbers. -/
def SynIn (s : Nat × (Int × Int)) : Prop := s.1 ≤ 60 ∧ (-1000000000000 ≤ s.2.1 ∧ s.2.1 ≤ 1000000000000) ∧ -1000000000000 ≤ s.2.2 ∧ s.2.2 ≤ 1000000000000
theorem syn_key (s : Nat × (Int × Int)) (h : SynIn s) : ∃ kl, keyOf Try.prog 65 (synV s) = some kl := by
  obtain ⟨h1, ⟨h2, h3⟩, h4, h5⟩ := h
  have w1 : (Lit.int .i64 (s.1 : Int)).wf = true := WalkArith.wf_i64 (by omega)
  have w2 : (Lit.int .i64 s.2.1).wf = true := WalkArith.wf_i64 (by omega)
  have w3 : (Lit.int .i64 s.2.2).wf = true := WalkArith.wf_i64 (by omega)
  have ht : DataW.Trod (H := Unit) (fun _ => ()) Try.prog default 0 (fun _ => true) true 65 (synV s) (.agg [.lit (.int .i64 (s.1 : Int)), .lit (.int .i64 s.2.1), .lit (.int .i64 s.2.2)]) [] := ⟨2, by
    simp [synV, DataW.trod, Value.cells, Try.underlying65, Try.underlying3, synCells, synInt, w1, w2, w3]⟩
  exact ⟨_, (keyOf_asKey synDeep synWide (synFormed s) ht).1⟩
/-- A syndrome as a key. -/
noncomputable def keyS (s : Nat × (Int × Int)) : Lit := (keyOf Try.prog 65 (synV s)).getD (.bool false)
theorem keyS_eq (s : Nat × (Int × Int)) (h : SynIn s) : keyOf Try.prog 65 (synV s) = some (keyS s) := by
  obtain ⟨kl, e⟩ := syn_key s h
  unfold keyS
  rw [e]; rfl
theorem keyS_lit (s : Nat × (Int × Int)) (h : SynIn s) : WideAt.IsKeyLit (keyS s) := synLaw.key (keyS_eq s h)
theorem synV_inj (s t : Nat × (Int × Int)) (h : synV s = synV t) : s = t := by
  obtain ⟨a, b, c⟩ := s
  obtain ⟨a', b', c'⟩ := t
  simp [synV] at h
  obtain ⟨h1, h2, h3⟩ := h
  rw [h2, h3, show a = a' by omega]
theorem keyS_inj (s t : Nat × (Int × Int)) (hs : SynIn s) (ht : SynIn t) (h : keyS s = keyS t) : s = t :=
  synV_inj s t (synLaw.inj (keyS_eq s hs) (h ▸ keyS_eq t ht))
/-- The map of the first n entries of a table with L differences of the order o. -/
noncomputable def entD (o L : Nat) : Nat → DataW Unit
  | 0 => .map []
  | n + 1 => (entD o L n).put (keyS (unitS o n L)) (.lit (.int .i64 (n : Int)))
theorem entD_map (o L : Nat) : ∀ n, IsMap (entD o L n) := by
  intro n
  induction n with
  | zero => exact ⟨[], rfl⟩
  | succ n ih => obtain ⟨es, e⟩ := ih; exact ⟨_, by rw [entD, e]; rfl⟩
theorem ent_miss (o L : Nat) (s : Nat × (Int × Int)) (hs : SynIn s) : ∀ n, (∀ k, k < n → SynIn (unitS o k L)) → (∀ k, k < n → unitS o k L ≠ s) → has (entD o L n) (keyS s) = false := by
  intro n
  induction n with
  | zero => intro _ _; rfl
  | succ n ih =>
    intro hi hne
    rw [entD, has_put_other (fun e => hne n (Nat.lt_succ_self n) (keyS_inj _ _ (hi n (Nat.lt_succ_self n)) hs e.symm))]
    exact ih (fun k hk => hi k (by omega)) (fun k hk => hne k (by omega))
theorem ent_hit (o L k : Nat) (h1 : 1 ≤ o) (ho : o ≤ 7) (hL : 2 ≤ L) (zd : DataW Unit) : ∀ n, n ≤ L + o → (∀ j, j < n → SynIn (unitS o j L)) → k < n → has (entD o L n) (keyS (unitS o k L)) = true ∧ (entD o L n).atKey (keyS (unitS o k L)) zd = .lit (.int .i64 (k : Int)) := by
  intro n
  induction n with
  | zero => intro _ _ h; omega
  | succ n ih =>
    intro hn hi hk
    rw [entD]
    by_cases e : k = n
    · subst e
      have hl := keyS_lit _ (hi k (Nat.lt_succ_self k))
      exact ⟨has_put_same (entD_map o L k) hl _, atKey_put_same (entD_map o L k) hl _ _⟩
    · have hne : keyS (unitS o k L) ≠ keyS (unitS o n L) := fun h => e (unit_inj o k n L h1 ho (by omega) (by omega) hL (keyS_inj _ _ (hi k hk) (hi n (Nat.lt_succ_self n)) h))
      rw [has_put_other hne, atKey_put_other hne]
      exact ih (by omega) (fun j hj => hi j (by omega)) (by omega)
/-- The numbers of a syndrome of bounded differences. -/
theorem syn_in (row : List Int) (hn : row.length ≤ 60) (hbd : ∀ x ∈ row, x.natAbs ≤ 1000000000000) : SynIn (synL row) := by
  have hb : ∀ i : Nat, (row.getD i 0).natAbs ≤ 1000000000000 := fun i => by
    rw [List.getD_eq_getElem?_getD]
    cases h : row[i]? with
    | none => simp
    | some z => exact hbd z (List.mem_of_getElem? h)
  have hx := hb (synAt row)
  have hy := hb (synAt row + 1)
  have q1 : ((synX row).tdiv (divI (synX row) (synY row))).natAbs ≤ 1000000000000 := by rw [Int.natAbs_tdiv]; exact Nat.le_trans (Nat.div_le_self _ _) hx
  have q2 : ((synY row).tdiv (divI (synX row) (synY row))).natAbs ≤ 1000000000000 := by rw [Int.natAbs_tdiv]; exact Nat.le_trans (Nat.div_le_self _ _) hy
  refine ⟨by show synAt row ≤ 60; unfold synAt; omega, ⟨?_, ?_⟩, ?_, ?_⟩ <;> (simp only [synL, synP]; omega)
theorem unit_in (o k L : Nat) (ho : o ≤ 7) (hL : L ≤ 60) : SynIn (unitS o k L) := syn_in _ (by rw [errL_length]; exact hL) (fun x hx => by
  obtain ⟨i, hi⟩ := List.mem_iff_getElem?.1 hx
  have hil : i < L := by have := (List.getElem?_eq_some_iff.1 hi).1; rwa [errL_length] at this
  rw [errL_get o k 1 L i hil] at hi
  have := coef_bd o k i ho
  simp at hi
  omega)
end Go.Proofs.Ytlicihjjbojpcaa
