/-
  The walks of the exact laws of LayoutValid, PagesNeeded, PlaceOf and IndexOfPlace. No conditions.
-/
import Derived.Test.YtieealgmmkkgoaaPlcC
namespace Go.Proofs.Ytieealgmmkkgoaa
set_option maxRecDepth 4000
open Go.RowKit
theorem lay_size (a b c : Value) : (Try.prog.info? 30).map (·.size) = some (#[a, b, c] : Array Value).size := by
  rw [show (#[a, b, c] : Array Value).size = 3 from rfl]
  kernel_rfl
theorem toLay_any (x y z : Int) (w : World) : Calls Try.prog 17 #[layV x y z] w (Gives (layV x y z) w) := by
  unfold layV
  have BB := hidH ((bMore ((bMore ((bMore (Below.refl w.heap.size w) (.cells #[.int .i64 x, .int .i64 y, .int .i64 z] 24))) (.cells #[.int .i64 x, .int .i64 y, .int .i64 z] 30))) (.cells #[.int .i64 x, .int .i64 y, .int .i64 z] 30)))
  have HG := hidH (show (((w.alloc (.cells #[.int .i64 x, .int .i64 y, .int .i64 z] 24)).alloc (.cells #[.int .i64 x, .int .i64 y, .int .i64 z] 30)).alloc (.cells #[.int .i64 x, .int .i64 y, .int .i64 z] 30)).heap[w.heap.size + 1]? = some (.cells #[.int .i64 x, .int .i64 y, .int .i64 z] 30 (0, 0)) by
    rw [heap_alloc_old _ _ (by simp)]
    have h := heap_alloc_new (w.alloc (.cells #[.int .i64 x, .int .i64 y, .int .i64 z] 24)) (.cells #[.int .i64 x, .int .i64 y, .int .i64 z] 30)
    simpa using h)
  go_enter Try.func17, Try.ntmps17
  go_wp2_with fail
  refine bodyPost_ret (results_cell_row Try.results17 _ _ (w.heap.size + 1) 30 _ (0, 0) _ rfl HG.out Try.underlying30 rfl (lay_size _ _ _)) rfl ?_
  exact ⟨rfl, BB.out⟩
theorem layoutValid_gives (R A W : Int) (w : World) : Calls Try.prog 34 #[layV R A W] w (Gives (.bool (layOk R A W)) w) :=
  (layoutValid_any R A W w).mono fun _ _ ⟨a, b⟩ => ⟨a, by rw [b]; exact bMore (Below.refl _ _) _⟩
theorem sLayoutValid_gives (R A W : Int) (w : World) : Calls Try.prog 25 #[layV R A W] w (Gives (.bool (layOk R A W)) w) :=
  (sLayoutValid_any R A W w).mono fun _ _ ⟨a, b⟩ => ⟨a, by rw [b]; exact bMore (Below.refl _ _) _⟩
end Go.Proofs.Ytieealgmmkkgoaa
