/-
  The walks of the exact laws of LayoutValid, PagesNeeded, PlaceOf and IndexOfPlace. No conditions.
-/
import Derived.Test.YthjglhjogadeoaaPlcC
namespace Go.Proofs.Ythjglhjogadeoaa
set_option maxRecDepth 4000
open Go.RowKit
theorem lay_size (a b c : Value) : (Try.prog.info? 37).map (·.size) = some (#[a, b, c] : Array Value).size := by
  rw [show (#[a, b, c] : Array Value).size = 3 from rfl]
  kernel_rfl
theorem toLay_any (x y z : Int) (w : World) : Calls Try.prog 52 #[layV x y z] w (Gives (layV x y z) w) := by
  unfold layV
  have BB := hidH ((bMore ((bMore ((bMore (Below.refl w.heap.size w) (.cells #[.int .i64 x, .int .i64 y, .int .i64 z] 32))) (.cells #[.int .i64 x, .int .i64 y, .int .i64 z] 37))) (.cells #[.int .i64 x, .int .i64 y, .int .i64 z] 37)))
  have HG := hidH (show (((w.alloc (.cells #[.int .i64 x, .int .i64 y, .int .i64 z] 32)).alloc (.cells #[.int .i64 x, .int .i64 y, .int .i64 z] 37)).alloc (.cells #[.int .i64 x, .int .i64 y, .int .i64 z] 37)).heap[w.heap.size + 1]? = some (.cells #[.int .i64 x, .int .i64 y, .int .i64 z] 37 (0, 0)) by
    rw [heap_alloc_old _ _ (by simp)]
    have h := heap_alloc_new (w.alloc (.cells #[.int .i64 x, .int .i64 y, .int .i64 z] 32)) (.cells #[.int .i64 x, .int .i64 y, .int .i64 z] 37)
    simpa using h)
  go_enter Try.func52, Try.ntmps52
  go_wp2_with fail
  refine bodyPost_ret (results_cell_row Try.results52 _ _ (w.heap.size + 1) 37 _ (0, 0) _ rfl HG.out Try.underlying37 rfl (lay_size _ _ _)) rfl ?_
  exact ⟨rfl, BB.out⟩
theorem layoutValid_gives (R A W : Int) (w : World) : Calls Try.prog 56 #[layV R A W] w (Gives (.bool (layOk R A W)) w) :=
  (layoutValid_any R A W w).mono fun _ _ ⟨a, b⟩ => ⟨a, by rw [b]; exact bMore (Below.refl _ _) _⟩
theorem sLayoutValid_gives (R A W : Int) (w : World) : Calls Try.prog 49 #[layV R A W] w (Gives (.bool (layOk R A W)) w) :=
  (sLayoutValid_any R A W w).mono fun _ _ ⟨a, b⟩ => ⟨a, by rw [b]; exact bMore (Below.refl _ _) _⟩
end Go.Proofs.Ythjglhjogadeoaa
