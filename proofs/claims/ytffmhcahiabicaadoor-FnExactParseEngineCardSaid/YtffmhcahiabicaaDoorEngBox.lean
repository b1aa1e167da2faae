/-
  Engines in memory: an engine's slice in a block of its own, loaded and stored whole, and returned. No conditions.
-/
import Derived.Test.YtffmhcahiabicaaDoorSs
import Derived.Laws.Rows
import Derived.Laws.ResultCell
namespace Go.Proofs.YtffmhcahiabicaaDoor
set_option maxRecDepth 4000
set_option linter.unusedVariables false
open Go.RowKit
/-- Block b holds an engine with the slice v. -/
def EngAt (w : World) (b : Nat) (v : Value) : Prop := w.heap[b]? = some (.cells #[v] 26 (0, 0))
theorem EngAt.cell {w : World} {b : Nat} {v : Value} (h : EngAt w b v) : w.cell? ⟨b, 0, none⟩ = some v := by
  unfold EngAt at h
  simp [World.cell?, h]
theorem EngAt.free {w : World} {b : Nat} {v : Value} (h : EngAt w b v) (i : Nat) : w.frozen? ⟨b, i, none⟩ = false := by
  unfold EngAt at h
  simp [World.frozen?, h]
theorem EngAt.lt {w : World} {b : Nat} {v : Value} (h : EngAt w b v) : b < w.heap.size := (Array.getElem?_eq_some_iff.1 h).1
theorem EngAt.fresh (w : World) (v : Value) : EngAt (w.alloc (.cells #[v] 26)) w.heap.size v := heap_alloc_new w _
theorem EngAt.alloc {w : World} {b : Nat} {v : Value} (h : EngAt w b v) (o : Obj) : EngAt (w.alloc o) b v := by
  have hb := h.lt
  unfold EngAt at *
  rw [heap_alloc_old w o hb]; exact h
theorem EngAt.below {w w' : World} {b : Nat} {v : Value} (h : EngAt w b v) (hb : Below w.heap.size w w') : EngAt w' b v := by
  have hl := h.lt
  unfold EngAt at *
  rw [hb.block b hl]; exact h
theorem EngAt.lowB {w w' : World} {b B : Nat} {v : Value} (h : EngAt w b v) (hb : Below B w w') (hl : b < B) : EngAt w' b v := by
  unfold EngAt at *
  rw [hb.block b hl]; exact h
theorem EngAt.onto {w w' : World} {b c : Nat} {v : Value} (h : EngAt w b v) (hb : Onto c w w') (hc : b ≠ c) : EngAt w' b v := by
  have hl := h.lt
  unfold EngAt at *
  rw [hb.block b hl hc]; exact h
theorem EngAt.apart {w w' : World} {b lo hi : Nat} {v : Value} (h : EngAt w b v) (hb : Apart lo hi w w') (hc : b < lo ∨ hi ≤ b) : EngAt w' b v := by
  have hl := h.lt
  unfold EngAt at *
  rw [hb.block b hl hc]; exact h
theorem EngAt.drewN {w : World} {b : Nat} {v : Value} (h : EngAt w b v) (q : Nat) : EngAt (w.drewN q) b v := h
theorem EngAt.setRow {w : World} {b : Nat} {v : Value} (h : EngAt w b v) (u : Value) : EngAt (w.setRow b #[u]) b u := by
  unfold EngAt at *
  simp [World.setRow, Array.getElem?_modify, h]
theorem EngAt.setRowOther {w : World} {b : Nat} {v : Value} (h : EngAt w b v) (g : Nat) (cs : Array Value) (hg : b ≠ g) : EngAt (w.setRow g cs) b v := by
  unfold EngAt at *
  rw [setRow_other w g b cs hg]; exact h
theorem EngAt.setCell {w : World} {b : Nat} {v : Value} (h : EngAt w b v) (p : Addr) (u : Value) (hp : b ≠ p.block) : EngAt (w.setCell p u) b v := by
  unfold EngAt at *
  rw [Below.heap_setCell w p u b hp]; exact h
theorem EngAt.put {w : World} {b : Nat} {v : Value} (h : EngAt w b v) (u : Value) : EngAt (w.setCell ⟨b, 0, none⟩ u) b u := by
  unfold EngAt at *
  simp [World.setCell, Array.getElem?_modify, h]
theorem EngAt.newAt (w : World) (v : Value) (n : Nat) (hn : w.heap.size = n) : EngAt (w.alloc (.cells #[v] 26)) n v := hn ▸ EngAt.fresh w v
theorem eng_size (v : Value) : (Tryd.prog.info? 26).map (·.size) = some (#[v] : Array Value).size := by
  rw [show (#[v] : Array Value).size = 1 from rfl]
  kernel_rfl
theorem slice_one (a : Option Addr) (n cap : Nat) : (#[Value.slice a n cap] : Array Value).all (·.oneCell') = true := by simp [Value.oneCell']
theorem LiesS.some {w : World} {lo hi : Nat} {v : Value} {zs : List ByteArray} (h : LiesS w lo hi v zs) : ∃ a cap, v = .slice a zs.length cap := by
  obtain ⟨a, cap, e, _⟩ := h
  exact ⟨a, cap, e⟩
theorem RowS.some {w : World} {lo hi : Nat} {v : Value} {zs : List ByteArray} (h : RowS w lo hi v zs) : ∃ a cap, v = .slice a zs.length cap := by
  obtain ⟨a, cap, e, _⟩ := h
  exact ⟨a, cap, e⟩
theorem bMore {a w : World} (h : Below a.heap.size a w) (o : Obj) : Below a.heap.size a (w.alloc o) := h.alloc h.size o
theorem bRow {a w : World} (h : Below a.heap.size a w) {b : Nat} (hb : a.heap.size ≤ b) (cs : Array Value) : Below a.heap.size a (w.setRow b cs) :=
  ⟨h.os, h.tape, h.output, by simpa using h.size, fun k hk => by rw [setRow_other w b k cs (by omega)]; exact h.block k hk⟩
theorem belowN' (w : World) (v : Value) : Below w.heap.size w (w.alloc (.cells #[v] 26)) := bMore (Below.refl _ _) _
theorem bThen {a b c : World} (h : Below a.heap.size a b) (k : Below b.heap.size b c) : Below a.heap.size a c := h.trans (k.mono h.size)
theorem onto_setRow (r : Nat) (w : World) (cs : Array Value) : Onto r w (w.setRow r cs) :=
  ⟨rfl, rfl, rfl, by simp, fun k _ hk => setRow_other w r k cs hk⟩
/-- A function that returns an engine. -/
theorem results_eng {fn : Func} {p : Tmp} (h : fn.results = #[.cell p 26]) (tmps : Array Value) (w : World) (g : Nat) (v : Value)
    (hp : tmps.getD p undef = .pointer (some ⟨g, 0, none⟩)) (hg : EngAt w g v) : (results fn tmps).run Tryd.prog w = .ok (.agg #[v]) w :=
  results_cell_row h tmps w g 26 #[v] (0, 0) _ hp hg Tryd.underlying26 rfl (eng_size v)
/-- A function that returns an engine and a truth. -/
theorem results_engB {fn : Func} {p u : Tmp} (h : fn.results = #[.cell p 26, .tmp u]) (tmps : Array Value) (w : World) (g : Nat) (v b : Value)
    (hp : tmps.getD p undef = .pointer (some ⟨g, 0, none⟩)) (hu : tmps.getD u undef = b) (hg : EngAt w g v) : (results fn tmps).run Tryd.prog w = .ok (.tuple #[.agg #[v], b]) w := by
  rw [results_cell_tmp h, hp, hu]
  have hr := run_loadVar_row (P := Tryd.prog) w g 26 26 #[v] (0, 0) _ hg Tryd.underlying26 rfl (eng_size v)
  simp [asAddr, hr]
theorem bDrew' {w w' : World} (h : Below w.drew.heap.size w.drew w') : Below w.heap.size w w' := bThen ((Below.refl w.heap.size w).drew) h
end Go.Proofs.YtffmhcahiabicaaDoor
