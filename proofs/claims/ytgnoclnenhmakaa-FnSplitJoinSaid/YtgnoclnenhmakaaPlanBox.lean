/-
  Segments in memory: a segment in a block of its own, stored whole, and returned; the laws' own functions on segments. Condition: at most 1048576 differences.
-/
import Derived.Test.YtgnoclnenhmakaaBox
import Derived.Test.YtgnoclnenhmakaaPlanA
import Derived.Test.YtgnoclnenhmakaaSl
import Derived.Laws.Rows
import Derived.Laws.ResultCell
namespace Go.Proofs.Ytgnoclnenhmakaa
set_option maxRecDepth 4000
open Go.RowKit
/-- Block b holds a segment with the count c and the slice v. -/
def SegAt (w : World) (b : Nat) (c : Int) (v : Value) : Prop := w.heap[b]? = some (.cells #[.int .i64 c, v] 39 (0, 0))
theorem SegAt.cell0 {w : World} {b : Nat} {c : Int} {v : Value} (h : SegAt w b c v) : w.cell? ⟨b, 0, none⟩ = some (.int .i64 c) := by
  unfold SegAt at h
  simp [World.cell?, h]
theorem SegAt.cell1 {w : World} {b : Nat} {c : Int} {v : Value} (h : SegAt w b c v) : w.cell? ⟨b, 1, none⟩ = some v := by
  unfold SegAt at h
  simp [World.cell?, h]
theorem SegAt.lt {w : World} {b : Nat} {c : Int} {v : Value} (h : SegAt w b c v) : b < w.heap.size := (Array.getElem?_eq_some_iff.1 h).1
theorem SegAt.fresh (w : World) (c : Int) (v : Value) : SegAt (w.alloc (.cells #[.int .i64 c, v] 39)) w.heap.size c v := heap_alloc_new w _
theorem SegAt.below {w w' : World} {b : Nat} {c : Int} {v : Value} (h : SegAt w b c v) (hb : Below w.heap.size w w') : SegAt w' b c v := by
  have hl := h.lt
  unfold SegAt at *
  rw [hb.block b hl]; exact h
theorem SegAt.lowB {w w' : World} {b B : Nat} {c : Int} {v : Value} (h : SegAt w b c v) (hb : Below B w w') (hl : b < B) : SegAt w' b c v := by
  unfold SegAt at *
  rw [hb.block b hl]; exact h
theorem SegAt.apart {w w' : World} {b lo hi : Nat} {c : Int} {v : Value} (h : SegAt w b c v) (hb : Apart lo hi w w') (hc : b < lo ∨ hi ≤ b) : SegAt w' b c v := by
  have hl := h.lt
  unfold SegAt at *
  rw [hb.block b hl hc]; exact h
theorem SegAt.setRow {w : World} {b : Nat} {c : Int} {v : Value} (h : SegAt w b c v) (d : Int) (u : Value) : SegAt (w.setRow b #[.int .i64 d, u]) b d u := by
  unfold SegAt at *
  simp [World.setRow, Array.getElem?_modify, h]
theorem seg_size (c : Int) (v : Value) : (Try.prog.info? 39).map (·.size) = some (#[.int .i64 c, v] : Array Value).size := by
  rw [show (#[.int .i64 c, v] : Array Value).size = 2 from rfl]
  kernel_rfl
theorem seg_one (c : Int) (a : Option Addr) (n cap : Nat) : (#[.int .i64 c, .slice a n cap] : Array Value).all (·.oneCell') = true := by simp [Value.oneCell']
theorem Row.some {w : World} {lo hi : Nat} {v : Value} {zs : List Int} (h : Row w lo hi v zs) : ∃ a cap, v = .slice a zs.length cap := by
  obtain ⟨a, cap, e, _⟩ := h.lies
  exact ⟨a, cap, e⟩
theorem Lies.some {w : World} {lo hi : Nat} {v : Value} {zs : List Int} (h : Lies w lo hi v zs) : ∃ a cap, v = .slice a zs.length cap := by
  obtain ⟨a, cap, e, _⟩ := h
  exact ⟨a, cap, e⟩
/-- A function that returns a segment and a truth. -/
theorem results_segB {fn : Func} {p u : Tmp} (h : fn.results = #[.cell p 39, .tmp u]) (tmps : Array Value) (w : World) (g : Nat) (c : Int) (v b : Value)
    (hp : tmps.getD p undef = .pointer (some ⟨g, 0, none⟩)) (hu : tmps.getD u undef = b) (hg : SegAt w g c v) : (results fn tmps).run Try.prog w = .ok (.tuple #[.agg #[.int .i64 c, v], b]) w := by
  rw [results_cell_tmp h, hp, hu]
  have hr := run_loadVar_row (P := Try.prog) w g 39 39 #[.int .i64 c, v] (0, 0) _ hg Try.underlying39 rfl (seg_size c v)
  simp [asAddr, hr]
/-- A call that answers a new segment and a truth. -/
def NewSegB (c : Int) (zs : List Int) (b : Bool) (w : World) (e : Ending) (w' : World) : Prop := ∃ v, e = .returned (.tuple #[.agg #[.int .i64 c, v], .bool b]) ∧ Row w' w.heap.size w'.heap.size v zs ∧ Below w.heap.size w w'
/-! ### The laws' own functions -/
end Go.Proofs.Ytgnoclnenhmakaa
