/-
  Places of a layout: the program. No conditions.
-/
import Derived.Test.YtcinhmfjnjecdaaPlcM
import Derived.Test.YtcinhmfjnjecdaaRndA
import Derived.Test.YtcinhmfjnjecdaaBox
import Derived.Deep.CutRange
import Derived.Deep.RegionWith
namespace Go.Proofs.Ytcinhmfjnjecdaa
set_option maxRecDepth 4000
open Go.RowKit
/-- A layout as a value. -/
def layV (R A W : Int) : Value := .agg #[.int .i64 R, .int .i64 A, .int .i64 W]
/-- The block of a layout. -/
def layC (R A W : Int) : Obj := .cells #[.int .i64 R, .int .i64 A, .int .i64 W] 36
theorem results_four {fn : Func} {t u v x : Tmp} (h : fn.results = #[.tmp t, .tmp u, .tmp v, .tmp x]) (tmps : Array Value) (P : Program) (w : World) :
    (results fn tmps).run P w = .ok (.tuple #[tmps.getD t undef, tmps.getD u undef, tmps.getD v undef, tmps.getD x undef]) w := by
  unfold results
  rw [h]
  simp
/-- Block b holds a layout. -/
def LayAt (w : World) (b : Nat) (R A W : Int) : Prop := w.heap[b]? = some (layC R A W)
theorem LayAt.cell0 {w : World} {b : Nat} {R A W : Int} (h : LayAt w b R A W) : w.cell? ⟨b, 0, none⟩ = some (.int .i64 R) := by
  unfold LayAt layC at h
  simp [World.cell?, h]
theorem LayAt.cell1 {w : World} {b : Nat} {R A W : Int} (h : LayAt w b R A W) : w.cell? ⟨b, 1, none⟩ = some (.int .i64 A) := by
  unfold LayAt layC at h
  simp [World.cell?, h]
theorem LayAt.cell2 {w : World} {b : Nat} {R A W : Int} (h : LayAt w b R A W) : w.cell? ⟨b, 2, none⟩ = some (.int .i64 W) := by
  unfold LayAt layC at h
  simp [World.cell?, h]
theorem LayAt.lt {w : World} {b : Nat} {R A W : Int} (h : LayAt w b R A W) : b < w.heap.size := (Array.getElem?_eq_some_iff.1 h).1
theorem LayAt.fresh (w : World) (R A W : Int) : LayAt (w.alloc (layC R A W)) w.heap.size R A W := heap_alloc_new w _
theorem LayAt.below {w w' : World} {b : Nat} {R A W : Int} (h : LayAt w b R A W) (hb : Below w.heap.size w w') : LayAt w' b R A W := by
  have hl := h.lt
  unfold LayAt at *
  rw [hb.block b hl]; exact h
theorem LayAt.apart {w w' : World} {b lo hi : Nat} {R A W : Int} (h : LayAt w b R A W) (hb : Apart lo hi w w') (hc : b < lo ∨ hi ≤ b) : LayAt w' b R A W := by
  have hl := h.lt
  unfold LayAt at *
  rw [hb.block b hl hc]; exact h
theorem layoutValid_any (R A W : Int) (w : World) : Calls Try.prog 51 #[layV R A W] w fun e w' => e = .returned (.bool (layOk R A W)) ∧ w' = w.alloc (.cells #[.int .i64 R, .int .i64 A, .int .i64 W] 36) := by
  unfold layOk layV
  have H1 := hidH (fun W' => between_any R 1 20 _ rfl W')
  have H2 := hidH (fun W' => between_any A 1 6 _ rfl W')
  have H3 := hidH (fun W' => between_any W 1 12 _ rfl W')
  generalize decide ((1 : Int) ≤ R ∧ R ≤ 20) = b1 at *
  generalize decide ((1 : Int) ≤ A ∧ A ≤ 6) = b2 at *
  generalize decide ((1 : Int) ≤ W ∧ W ≤ 12) = b3 at *
  cases b1
  · go_enter Try.func51, Try.ntmps51
    go_wp2_with fail
    refine (H1.out _).mono ?_; rintro e w1 ⟨rfl, rfl⟩
    go_wp2_with fail
    go_ret
    exact ⟨rfl, rfl⟩
  · cases b2
    · go_enter Try.func51, Try.ntmps51
      go_wp2_with fail
      refine (H1.out _).mono ?_; rintro e w1 ⟨rfl, rfl⟩
      go_wp2_with fail
      refine (H2.out _).mono ?_; rintro e w1 ⟨rfl, rfl⟩
      go_wp2_with fail
      go_ret
      exact ⟨rfl, rfl⟩
    · go_enter Try.func51, Try.ntmps51
      go_wp2_with fail
      refine (H1.out _).mono ?_; rintro e w1 ⟨rfl, rfl⟩
      go_wp2_with fail
      refine (H2.out _).mono ?_; rintro e w1 ⟨rfl, rfl⟩
      go_wp2_with fail
      refine (H3.out _).mono ?_; rintro e w1 ⟨rfl, rfl⟩
      go_wp2_with fail
      go_ret
      exact ⟨rfl, rfl⟩
end Go.Proofs.Ytcinhmfjnjecdaa
