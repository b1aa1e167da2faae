/-
  JobTime: the program, at every argument. No conditions but that slices fit in memory.
-/
import Derived.Test.YtcinhmfjnjecdaaJobB
namespace Go.Proofs.Ytcinhmfjnjecdaa
set_option maxRecDepth 4000
open Go.RowKit
/-- What JobTime answers. -/
def jobT (zs : List Int) (F C Wd D Wy R A Wi : Int) : Int := if jobOk zs F C Wd D Wy R A Wi then wrap64 (wrap64 ((zs.length : Int) * Wd) + C) else -1
theorem job_size (v : Value) (F C Wd D Wy R A Wi : Int) : (Try.prog.info? 38).map (·.size) = some (jobC v F C Wd D Wy R A Wi).size := by
  rw [show (jobC v F C Wd D Wy R A Wi).size = 9 from rfl]
  kernel_rfl
set_option maxHeartbeats 800000 in
theorem jobTime_any (v : Value) (zs : List Int) (F C Wd D Wy R A Wi : Int) (w : World) (lo hi : Nat) (hv : Lies w lo hi v zs) : Calls Try.prog 23 #[jobV v F C Wd D Wy R A Wi] w (Gives (.int .i64 (jobT zs F C Wd D Wy R A Wi)) w) := by
  have HJV := hidH (fun W (h : Lies W 0 W.heap.size v zs) => jobValid_any v zs F C Wd D Wy R A Wi W _ _ h)
  have HV := hidH hv.top
  obtain ⟨va, vcap, rfl, hvc, hvm, _, _⟩ := hv
  unfold maxLen at hvm
  have BB := hidH (bMore (Below.refl w.heap.size w) (.cells (jobC (.slice va zs.length vcap) F C Wd D Wy R A Wi) 38))
  have HV1 := hidH (HV.out.below BB.out)
  have HJ := hidH (show (w.alloc (.cells (jobC (.slice va zs.length vcap) F C Wd D Wy R A Wi) 38)).heap[w.heap.size]? = some (.cells (jobC (.slice va zs.length vcap) F C Wd D Wy R A Wi) 38 (0, 0)) from heap_alloc_new w _)
  have SZ := hidH (job_size (.slice va zs.length vcap) F C Wd D Wy R A Wi)
  have HJ1 := hidH (HJV.out _ HV1.out.top)
  unfold jobT
  unfold jobV at *
  unfold jobC at *
  cases hj : jobOk zs F C Wd D Wy R A Wi
  · have HOK := hidH hj
    clear hj
    go_enter Try.func23, Try.ntmps23
    go_wp2_with (refine wpList_load_row rfl 38 _ rfl w.heap.size rfl 38 _ (0, 0) _ HJ.out Try.underlying38 rfl SZ.out ?_)
    refine HJ1.out.mono ?_; rintro e w1 ⟨rfl, hb⟩
    rw [HOK.out]
    have B1 := hidH (bThen BB.out hb)
    clear hb
    go_wp2_with fail
    go_ret
    exact ⟨rfl, B1.out⟩
  · have HOK := hidH hj
    clear hj
    go_enter Try.func23, Try.ntmps23
    go_wp2_with (refine wpList_load_row rfl 38 _ rfl w.heap.size rfl 38 _ (0, 0) _ HJ.out Try.underlying38 rfl SZ.out ?_)
    refine HJ1.out.mono ?_; rintro e w1 ⟨rfl, hb⟩
    rw [HOK.out]
    have B1 := hidH (bThen BB.out hb)
    have J1 := hidH (heap_keep HJ.out hb)
    have c0 := job_cell J1.out 0 _ rfl
    have c2 := job_cell J1.out 2 _ rfl
    have c3 := job_cell J1.out 3 _ rfl
    clear hb
    go_wp2_with fail
    go_ret
    exact ⟨rfl, B1.out⟩
end Go.Proofs.Ytcinhmfjnjecdaa
