/-
  The two steps before carries: two texts read into rows of wheels, and turned. Condition: texts of at most 2 to the power of 63, minus 1, bytes.
-/
import Derived.Test.YtmjahklcliocjaaDoorRowF
import Derived.Deep.RegionLaw
namespace Go.Proofs.YtmjahklcliocjaaDoor
set_option maxRecDepth 4000
open Go.RowKit
theorem h_colValid (s : ByteArray) (hs : s.size ≤ 9223372036854775807) (h : ok s = true) (w : World) : Calls Tryd.prog 9 #[.string s] w fun e w' => e = .returned (.bool true) ∧ Below w.heap.size w w' := h ▸ colValid_any s hs w
theorem h_colNot (s : ByteArray) (hs : s.size ≤ 9223372036854775807) (h : ok s = false) (w : World) : Calls Tryd.prog 9 #[.string s] w fun e w' => e = .returned (.bool false) ∧ Below w.heap.size w w' := h ▸ colValid_any s hs w
/-- A whole row loaded, as one step of a statement whose order is open. -/
theorem step_load_row {P : Program} {ops : Array Oper} {o : Oper} {a : Act} {w : World} {K : Act → World → Prop} {Q : Exit → Act → World → Prop} {E : Prop} (hgd : o.guard = none) (ty : TypeId) (x : Operand) (ho : o.op = .load ty x)
    (g : Nat) (hx : a.eval x = .pointer (some ⟨g, 0, none⟩)) (t : TypeId) (cs : Array Value) (fr : Nat × Nat) (d : TypeDesc) (hg : w.heap[g]? = some (.cells cs t fr))
    (hu : P.underlying ty = some d) (hd : (match d with | .struct _ | .array _ _ => true | _ => false) = true) (hi : (P.info? ty).map (·.size) = some cs.size)
    (h : K (a.put o.dst (.agg cs)) w) : if Region.wanted o (yielded ops a.tmps) = true then Oper.wp P o a w K Q else E := by
  have hw : Region.wanted o (yielded ops a.tmps) = true := by simp [Region.wanted, hgd]
  rw [if_pos hw]
  exact wp_load_row ty x ho g hx t cs fr d hg hu hd hi h
/-- A whole row stored, likewise. -/
theorem step_store_row {P : Program} {ops : Array Oper} {o : Oper} {a : Act} {w : World} {K : Act → World → Prop} {Q : Exit → Act → World → Prop} {E : Prop} (hgd : o.guard = none) (ty : TypeId) (x y : Operand) (ho : o.op = .store ty x y)
    (g : Nat) (cells : Array Value) (hx : a.eval x = .pointer (some ⟨g, 0, none⟩)) (hy : a.eval y = .agg cells)
    (t : TypeId) (old : Array Value) (hg : w.heap[g]? = some (.cells old t (0, 0))) (hi : (P.info? ty).map (·.size) = some cells.size)
    (hold : old.size = cells.size) (h1 : cells.all (·.oneCell') = true)
    (h : K (a.put o.dst undef) (w.setRow g cells)) : if Region.wanted o (yielded ops a.tmps) = true then Oper.wp P o a w K Q else E := by
  have hw : Region.wanted o (yielded ops a.tmps) = true := by simp [Region.wanted, hgd]
  rw [if_pos hw]
  exact wp_store_row ty x y ho g cells hx hy t old hg hi hold h1 h
/-- Three results, two of them rows in memory. -/
theorem results_rows {P : Program} {fn : Func} {p q r : Tmp} {ty : TypeId} (h : fn.results = #[.cell p ty, .cell q ty, .tmp r]) (tmps : Array Value) (w : World) (g1 g2 : Nat) (t : TypeId) (c1 c2 : Array Value) (fr : Nat × Nat) (d : TypeDesc) (v : Value)
    (hp : tmps.getD p undef = .pointer (some ⟨g1, 0, none⟩)) (hq : tmps.getD q undef = .pointer (some ⟨g2, 0, none⟩)) (hr : tmps.getD r undef = v) (h1 : w.heap[g1]? = some (.cells c1 t fr)) (h2 : w.heap[g2]? = some (.cells c2 t fr))
    (hu : P.underlying ty = some d) (hd : (match d with | .struct _ | .array _ _ => true | _ => false) = true) (hi1 : (P.info? ty).map (·.size) = some c1.size) (hi2 : (P.info? ty).map (·.size) = some c2.size) :
    (results fn tmps).run P w = .ok (.tuple #[.agg c1, .agg c2, v]) w := by
  have hp' : tmps[p]?.getD undef = .pointer (some ⟨g1, 0, none⟩) := by simpa using hp
  have hq' : tmps[q]?.getD undef = .pointer (some ⟨g2, 0, none⟩) := by simpa using hq
  have hr' : tmps[r]?.getD undef = v := by simpa using hr
  simp [results, h, hp', hq', hr', asAddr, run_loadVar_row w g1 t ty c1 fr d h1 hu hd hi1, run_loadVar_row w g2 t ty c2 fr d h2 hu hd hi2]
/-- Two columns of the same width. -/
def pair (a b : ByteArray) : Bool := ok a && ok b && decide (a.size = b.size)
theorem pair_iff (a b : ByteArray) : pair a b = true ↔ ok a = true ∧ ok b = true ∧ a.size = b.size := by
  unfold pair
  rw [Bool.and_eq_true, Bool.and_eq_true, decide_eq_true_eq, and_assoc]
theorem dgS_facts (s : ByteArray) (h : ok s = true) : digs (dgS s) ∧ (dgS s).length = s.size := by
  have ⟨hd, _, _⟩ := (ok_iff s).1 h
  exact ⟨dg_digs _ hd, by rw [dgS, dg_length, size_len]⟩
/-- The rows that a function returns. -/
def rows2 (n : Int) (A B : List Int) (r : Bool) : Value := .tuple #[.agg (rowC n A), .agg (rowC n B), .bool r]
/-- A new row, filled. -/
theorem RowAt.filled (w : World) (n : Int) (L : List Int) : RowAt ((w.alloc (.cells (rowC 0 (pad [])) 57)).setRow w.heap.size (rowC n L)) w.heap.size n L := RowAt.setRow (RowAt.fresh w 0 (pad [])) n L
theorem Below.filled {B : Nat} {a w : World} (h : Below B a w) (hB : B ≤ w.heap.size) (o : Obj) (g : Nat) (cs : Array Value) (hg : B ≤ g) : Below B a ((w.alloc o).setRow g cs) :=
  Below.setRow2 (h.alloc hB o) g cs hg
theorem zero_size (n : Int) (L : List Int) (h : L.length = 12) : (rowC 0 (pad [])).size = (rowC n L).size := by rw [rowC_size, rowC_size, h]; rfl
/-- No rows. -/
theorem no_rows {P : Program} {fn : Func} {p q r : Tmp} (h : fn.results = #[.cell p 57, .cell q 57, .tmp r]) (hP : P = Tryd.prog) (tmps : Array Value) (w : World) (g1 g2 : Nat)
    (hp : tmps.getD p undef = .pointer (some ⟨g1, 0, none⟩)) (hq : tmps.getD q undef = .pointer (some ⟨g2, 0, none⟩)) (hr : tmps.getD r undef = .bool false) (h1 : RowAt w g1 0 (pad [])) (h2 : RowAt w g2 0 (pad [])) :
    (results fn tmps).run P w = .ok (rows2 0 (pad []) (pad []) false) w := by
  subst hP
  exact results_rows h tmps w g1 g2 57 _ _ (0, 0) _ _ hp hq hr h1 h2 Tryd.underlying57 rfl (row_size _ _ (by decide)) (row_size _ _ (by decide))
/-- The end of a function that returns no rows: both results are set to zero rows once more. -/
theorem zeros_twice (w : World) (A B : Nat) (hab : A ≠ B) (hA : RowAt w A 0 (pad [])) (hB : RowAt w B 0 (pad [])) : RowAt ((w.setRow A (rowC 0 (pad []))).setRow B (rowC 0 (pad []))) A 0 (pad []) ∧ RowAt ((w.setRow A (rowC 0 (pad []))).setRow B (rowC 0 (pad []))) B 0 (pad []) :=
  ⟨RowAt.setRowOther (RowAt.setRow hA _ _) _ _ hab, RowAt.setRow (RowAt.setRowOther hB _ _ (fun e => hab e.symm)) _ _⟩
end Go.Proofs.YtmjahklcliocjaaDoor
