/-
  Engines in memory: an engine's slice in a block of its own, loaded and stored whole, and returned. No conditions.
  The laws' own functions on engines: a copy, equality, marks and whether they still stand, and the size. Condition: at most 1048576 columns.
-/
import Derived.Test.YtcinhmfjnjecdaaBox
import Derived.Test.YtcinhmfjnjecdaaSs
import Derived.Laws.Rows
import Derived.Laws.ResultCell
namespace Go.Proofs.Ytcinhmfjnjecdaa
set_option maxRecDepth 4000
set_option linter.unusedVariables false
open Go.RowKit
/-- Block b holds an engine with the slice v. -/
def EngAt (w : World) (b : Nat) (v : Value) : Prop := w.heap[b]? = some (.cells #[v] 62 (0, 0))
theorem EngAt.cell {w : World} {b : Nat} {v : Value} (h : EngAt w b v) : w.cell? ⟨b, 0, none⟩ = some v := by
  unfold EngAt at h
  simp [World.cell?, h]
theorem EngAt.free {w : World} {b : Nat} {v : Value} (h : EngAt w b v) (i : Nat) : w.frozen? ⟨b, i, none⟩ = false := by
  unfold EngAt at h
  simp [World.frozen?, h]
theorem EngAt.lt {w : World} {b : Nat} {v : Value} (h : EngAt w b v) : b < w.heap.size := (Array.getElem?_eq_some_iff.1 h).1
theorem EngAt.fresh (w : World) (v : Value) : EngAt (w.alloc (.cells #[v] 62)) w.heap.size v := heap_alloc_new w _
theorem EngAt.alloc {w : World} {b : Nat} {v : Value} (h : EngAt w b v) (o : Obj) : EngAt (w.alloc o) b v := by
  have hb := h.lt
  unfold EngAt at *
  rw [heap_alloc_old w o hb]; exact h
theorem EngAt.below {w w' : World} {b : Nat} {v : Value} (h : EngAt w b v) (hb : Below w.heap.size w w') : EngAt w' b v := by
  have hl := h.lt
  unfold EngAt at *
  rw [hb.block b hl]; exact h
theorem EngAt.lowB {w w' : World} {b B : Nat} {v : Value} (h : EngAt w b v) (hb : Below B w w') (hl : b < B) : EngAt w' b v := by
  unfold EngAt at *
  rw [hb.block b hl]; exact h
theorem EngAt.onto {w w' : World} {b c : Nat} {v : Value} (h : EngAt w b v) (hb : Onto c w w') (hc : b ≠ c) : EngAt w' b v := by
  have hl := h.lt
  unfold EngAt at *
  rw [hb.block b hl hc]; exact h
theorem EngAt.apart {w w' : World} {b lo hi : Nat} {v : Value} (h : EngAt w b v) (hb : Apart lo hi w w') (hc : b < lo ∨ hi ≤ b) : EngAt w' b v := by
  have hl := h.lt
  unfold EngAt at *
  rw [hb.block b hl hc]; exact h
theorem EngAt.drewN {w : World} {b : Nat} {v : Value} (h : EngAt w b v) (q : Nat) : EngAt (w.drewN q) b v := h
theorem EngAt.setRow {w : World} {b : Nat} {v : Value} (h : EngAt w b v) (u : Value) : EngAt (w.setRow b #[u]) b u := by
  unfold EngAt at *
  simp [World.setRow, Array.getElem?_modify, h]
theorem EngAt.setRowOther {w : World} {b : Nat} {v : Value} (h : EngAt w b v) (g : Nat) (cs : Array Value) (hg : b ≠ g) : EngAt (w.setRow g cs) b v := by
  unfold EngAt at *
  rw [setRow_other w g b cs hg]; exact h
theorem EngAt.setCell {w : World} {b : Nat} {v : Value} (h : EngAt w b v) (p : Addr) (u : Value) (hp : b ≠ p.block) : EngAt (w.setCell p u) b v := by
  unfold EngAt at *
  rw [Below.heap_setCell w p u b hp]; exact h
theorem EngAt.put {w : World} {b : Nat} {v : Value} (h : EngAt w b v) (u : Value) : EngAt (w.setCell ⟨b, 0, none⟩ u) b u := by
  unfold EngAt at *
  simp [World.setCell, Array.getElem?_modify, h]
theorem EngAt.newAt (w : World) (v : Value) (n : Nat) (hn : w.heap.size = n) : EngAt (w.alloc (.cells #[v] 62)) n v := hn ▸ EngAt.fresh w v
theorem eng_size (v : Value) : (Try.prog.info? 62).map (·.size) = some (#[v] : Array Value).size := by
  rw [show (#[v] : Array Value).size = 1 from rfl]
  kernel_rfl
theorem slice_one (a : Option Addr) (n cap : Nat) : (#[Value.slice a n cap] : Array Value).all (·.oneCell') = true := by simp [Value.oneCell']
theorem LiesS.some {w : World} {lo hi : Nat} {v : Value} {zs : List ByteArray} (h : LiesS w lo hi v zs) : ∃ a cap, v = .slice a zs.length cap := by
  obtain ⟨a, cap, e, _⟩ := h
  exact ⟨a, cap, e⟩
theorem RowS.some {w : World} {lo hi : Nat} {v : Value} {zs : List ByteArray} (h : RowS w lo hi v zs) : ∃ a cap, v = .slice a zs.length cap := by
  obtain ⟨a, cap, e, _⟩ := h
  exact ⟨a, cap, e⟩
theorem belowN' (w : World) (v : Value) : Below w.heap.size w (w.alloc (.cells #[v] 62)) := bMore (Below.refl _ _) _
theorem onto_setRow (r : Nat) (w : World) (cs : Array Value) : Onto r w (w.setRow r cs) :=
  ⟨rfl, rfl, rfl, by simp, fun k _ hk => setRow_other w r k cs hk⟩
/-- A function that returns an engine. -/
theorem results_eng {fn : Func} {p : Tmp} (h : fn.results = #[.cell p 62]) (tmps : Array Value) (w : World) (g : Nat) (v : Value)
    (hp : tmps.getD p undef = .pointer (some ⟨g, 0, none⟩)) (hg : EngAt w g v) : (results fn tmps).run Try.prog w = .ok (.agg #[v]) w :=
  results_cell_row h tmps w g 62 #[v] (0, 0) _ hp hg Try.underlying62 rfl (eng_size v)
/-- A function that returns an engine and a truth. -/
theorem results_engB {fn : Func} {p u : Tmp} (h : fn.results = #[.cell p 62, .tmp u]) (tmps : Array Value) (w : World) (g : Nat) (v b : Value)
    (hp : tmps.getD p undef = .pointer (some ⟨g, 0, none⟩)) (hu : tmps.getD u undef = b) (hg : EngAt w g v) : (results fn tmps).run Try.prog w = .ok (.tuple #[.agg #[v], b]) w := by
  rw [results_cell_tmp h, hp, hu]
  have hr := run_loadVar_row (P := Try.prog) w g 62 62 #[v] (0, 0) _ hg Try.underlying62 rfl (eng_size v)
  simp [asAddr, hr]
theorem bDrew' {w w' : World} (h : Below w.drew.heap.size w.drew w') : Below w.heap.size w w' := bThen ((Below.refl w.heap.size w).drew) h
end Go.Proofs.Ytcinhmfjnjecdaa
namespace Go.Proofs.Ytcinhmfjnjecdaa
set_option maxRecDepth 4000
set_option linter.unusedVariables false
open Go.RowKit
/-- What the size of a list of texts leaves. -/
def Sized (zs : List ByteArray) (left : Nat) (w : World) (e : Ending) (w' : World) : Prop :=
  ∃ r : Int, e = .returned (.int .i64 r) ∧ (r = -1 ∨ (∃ m : Nat, r = m ∧ m ≤ left) ∧ zs.length ≤ left ∧ ∀ z ∈ zs, z.size ≤ left) ∧ Below w.heap.size w w'
/-- A call that answers a new engine. -/
def NewEng (zs : List ByteArray) (w : World) (e : Ending) (w' : World) : Prop := ∃ v, e = .returned (.agg #[v]) ∧ RowS w' w.heap.size w'.heap.size v zs ∧ Below w.heap.size w w'
/-- A call that answers a new engine and a truth. -/
def NewEngB (zs : List ByteArray) (b : Bool) (w : World) (e : Ending) (w' : World) : Prop := ∃ v, e = .returned (.tuple #[.agg #[v], .bool b]) ∧ RowS w' w.heap.size w'.heap.size v zs ∧ Below w.heap.size w w'
end Go.Proofs.Ytcinhmfjnjecdaa
