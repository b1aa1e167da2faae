/-
  JobTable: program and model, at every argument. No conditions but that slices fit in memory.
-/
import Derived.Test.YtieealgmmkkgoaaJobD
import Derived.Test.YtieealgmmkkgoaaPolyFe
import Derived.Test.YtieealgmmkkgoaaRndG
namespace Go.Proofs.Ytieealgmmkkgoaa
set_option maxRecDepth 4000
open Go.RowKit
/-- What JobTable answers. -/
def tabA (zs : List Int) (F C Wd D Wy R A Wi : Int) : List Int := if jobOk zs F C Wd D Wy R A Wi then rtabA (valuesA zs F C) D Wy else []
def tabB (zs : List Int) (F C Wd D Wy R A Wi : Int) : Bool := jobOk zs F C Wd D Wy R A Wi && rtabB (valuesA zs F C) D Wy
theorem tabA_len (zs : List Int) (F C Wd D Wy R A Wi : Int) : (tabA zs F C Wd D Wy R A Wi).length ≤ 1048576 := by
  unfold tabA
  split
  · exact rtabA_len _ _ _
  · simp
set_option maxHeartbeats 1600000 in
theorem jobTable_any (v : Value) (zs : List Int) (F C Wd D Wy R A Wi : Int) (w : World) (lo hi : Nat) (hv : Lies w lo hi v zs) : Calls Try.prog 7 #[jobV v F C Wd D Wy R A Wi] w (NewRowB (tabA zs F C Wd D Wy R A Wi) (tabB zs F C Wd D Wy R A Wi) w) := by
  have HJV := hidH (fun W (h : Lies W 0 W.heap.size v zs) => jobValid_any v zs F C Wd D Wy R A Wi W _ _ h)
  have HV := hidH hv.top
  obtain ⟨va, vcap, rfl, hvc, hvm, _, _⟩ := hv
  unfold maxLen at hvm
  have BB := hidH (bMore (Below.refl w.heap.size w) (.cells (jobC (.slice va zs.length vcap) F C Wd D Wy R A Wi) 32))
  have HV1 := hidH (HV.out.below BB.out)
  have HJ := hidH (show (w.alloc (.cells (jobC (.slice va zs.length vcap) F C Wd D Wy R A Wi) 32)).heap[w.heap.size]? = some (.cells (jobC (.slice va zs.length vcap) F C Wd D Wy R A Wi) 32 (0, 0)) from heap_alloc_new w _)
  have SZ := hidH (job_size (.slice va zs.length vcap) F C Wd D Wy R A Wi)
  have HVL := hidH (fun W (h : Lies W 0 W.heap.size (.slice va zs.length vcap) zs) => values_any (.slice va zs.length vcap) zs F C W _ _ h)
  have HRT := hidH (fun u W (h : Lies W 0 W.heap.size u (valuesA zs F C)) => roundTable_any u (valuesA zs F C) D Wy W _ _ h)
  have HJ1 := hidH (HJV.out _ HV1.out.top)
  clear HJV
  unfold tabA tabB
  unfold jobV at *
  unfold jobC at *
  cases hj : jobOk zs F C Wd D Wy R A Wi
  · have HOK := hidH hj
    clear hj
    rw [if_neg (by simp), Bool.false_and]
    go_enter Try.func7, Try.ntmps7
    go_wp2_with (refine wpList_load_row rfl 32 _ rfl w.heap.size rfl 32 _ (0, 0) _ HJ.out Try.underlying32 rfl SZ.out ?_)
    refine HJ1.out.mono ?_; rintro e w1 ⟨rfl, hb⟩
    rw [HOK.out]
    have B1 := hidH (bThen BB.out hb)
    clear hb
    go_wp2_with fail
    go_ret2
    exact ⟨_, rfl, Row.nil _ _ _ _ _ (Nat.zero_le _) (fun _ => rfl), B1.out⟩
  · have HOK := hidH hj
    clear hj
    rw [if_pos rfl, Bool.true_and]
    go_enter Try.func7, Try.ntmps7
    go_wp2_with (refine wpList_load_row rfl 32 _ rfl w.heap.size rfl 32 _ (0, 0) _ HJ.out Try.underlying32 rfl SZ.out ?_)
    refine HJ1.out.mono ?_; rintro e w1 ⟨rfl, hb⟩
    rw [HOK.out]
    have B1 := hidH (bThen BB.out hb)
    have J1 := hidH (heap_keep HJ.out hb)
    have HVa := hidH (HV1.out.below hb)
    clear hb HJ1 HJ BB HV1
    generalize valuesA zs F C = vs at *
    generalize rtabA vs D Wy = rs at *
    generalize rtabB vs D Wy = rb at *
    have c0 := job_cell J1.out 0 _ rfl
    have c1 := job_cell J1.out 1 _ rfl
    have c2 := job_cell J1.out 2 _ rfl
    go_wp2_with fail
    refine (HVL.out _ HVa.out.top).mono ?_; rintro e w2 ⟨u, rfl, hr, hb⟩
    have B2 := hidH (bThen B1.out hb)
    have J2 := hidH (heap_keep J1.out hb)
    have c4 := job_cell J2.out 4 _ rfl
    have c5 := job_cell J2.out 5 _ rfl
    have hs2 := B2.out.size
    have U2 := hidH hr
    clear hb hr c0 c1 c2 B1 J1 HVa
    go_wp2_with fail
    refine (HRT.out u _ U2.out.lies.top).mono ?_; rintro e w3 ⟨z, rfl, hr, hb⟩
    have B3 := hidH (bThen B2.out hb)
    have HR := hidH (hr.mono hs2 (Nat.le_refl _))
    clear hb hr c4 c5 J2 U2 B2
    go_wp2_with fail
    go_ret2
    exact ⟨_, rfl, HR.out, B3.out⟩
set_option maxHeartbeats 1600000 in
theorem sL8Table_any (v : Value) (zs : List Int) (F C Wd D Wy R A Wi : Int) (w : World) (lo hi : Nat) (hv : Lies w lo hi v zs) : Calls Try.prog 15 #[jobV v F C Wd D Wy R A Wi] w (NewRowB (rtabA (valuesA zs F C) D Wy) (rtabB (valuesA zs F C) D Wy) w) := by
  have HV := hidH hv.top
  obtain ⟨va, vcap, rfl, hvc, hvm, _, _⟩ := hv
  unfold maxLen at hvm
  have BB := hidH (bMore (Below.refl w.heap.size w) (.cells (jobC (.slice va zs.length vcap) F C Wd D Wy R A Wi) 32))
  have HV1 := hidH (HV.out.below BB.out)
  have HJ := hidH (show (w.alloc (.cells (jobC (.slice va zs.length vcap) F C Wd D Wy R A Wi) 32)).heap[w.heap.size]? = some (.cells (jobC (.slice va zs.length vcap) F C Wd D Wy R A Wi) 32 (0, 0)) from heap_alloc_new w _)
  have SZ := hidH (job_size (.slice va zs.length vcap) F C Wd D Wy R A Wi)
  have HVL := hidH (fun W (h : Lies W 0 W.heap.size (.slice va zs.length vcap) zs) => sValuesOf_any (.slice va zs.length vcap) zs F C W _ _ h)
  have HRT := hidH (fun u W (h : Lies W 0 W.heap.size u (valuesA zs F C)) => sRtab_any u (valuesA zs F C) D Wy W _ _ h)
  unfold jobV at *
  unfold jobC at *
  have B1 := BB
  have J1 := HJ
  have HVa := HV1
  clear BB HJ HV1
  generalize valuesA zs F C = vs at *
  generalize rtabA vs D Wy = rs at *
  generalize rtabB vs D Wy = rb at *
  go_enter Try.func15, Try.ntmps15
  have c0 := job_cell J1.out 0 _ rfl
  have c1 := job_cell J1.out 1 _ rfl
  have c2 := job_cell J1.out 2 _ rfl
  go_wp2_with fail
  refine (HVL.out _ HVa.out.top).mono ?_; rintro e w2 ⟨u, rfl, hr, hb⟩
  have B2 := hidH (bThen B1.out hb)
  have J2 := hidH (heap_keep J1.out hb)
  have c4 := job_cell J2.out 4 _ rfl
  have c5 := job_cell J2.out 5 _ rfl
  have hs2 := B2.out.size
  have U2 := hidH hr
  clear hb hr c0 c1 c2 B1 J1 HVa
  go_wp2_with fail
  refine (HRT.out u _ U2.out.lies.top).mono ?_; rintro e w3 ⟨z, rfl, hr, hb⟩
  have B3 := hidH (bThen B2.out hb)
  have HR := hidH (hr.mono hs2 (Nat.le_refl _))
  clear hb hr c4 c5 J2 U2 B2
  go_wp2_with fail
  go_ret2
  exact ⟨_, rfl, HR.out, B3.out⟩
set_option maxHeartbeats 1600000 in
theorem sJobTable_any (v : Value) (zs : List Int) (F C Wd D Wy R A Wi : Int) (w : World) (lo hi : Nat) (hv : Lies w lo hi v zs) : Calls Try.prog 5 #[jobV v F C Wd D Wy R A Wi] w (NewRowB (tabA zs F C Wd D Wy R A Wi) (tabB zs F C Wd D Wy R A Wi) w) := by
  have HJV := hidH (fun W (h : Lies W 0 W.heap.size v zs) => sJobValid_any v zs F C Wd D Wy R A Wi W _ _ h)
  have HL8 := hidH (fun W (h : Lies W 0 W.heap.size v zs) => sL8Table_any v zs F C Wd D Wy R A Wi W _ _ h)
  have HV := hidH hv.top
  obtain ⟨va, vcap, rfl, hvc, hvm, _, _⟩ := hv
  unfold maxLen at hvm
  have BB := hidH (bMore (Below.refl w.heap.size w) (.cells (jobC (.slice va zs.length vcap) F C Wd D Wy R A Wi) 32))
  have HV1 := hidH (HV.out.below BB.out)
  have HJ := hidH (show (w.alloc (.cells (jobC (.slice va zs.length vcap) F C Wd D Wy R A Wi) 32)).heap[w.heap.size]? = some (.cells (jobC (.slice va zs.length vcap) F C Wd D Wy R A Wi) 32 (0, 0)) from heap_alloc_new w _)
  have SZ := hidH (job_size (.slice va zs.length vcap) F C Wd D Wy R A Wi)
  have HJ1 := hidH (HJV.out _ HV1.out.top)
  clear HJV
  unfold tabA tabB
  unfold jobV at *
  unfold jobC at *
  cases hj : jobOk zs F C Wd D Wy R A Wi
  · have HOK := hidH hj
    clear hj
    rw [if_neg (by simp), Bool.false_and]
    go_enter Try.func5, Try.ntmps5
    go_wp2_with (refine wpList_load_row rfl 32 _ rfl w.heap.size rfl 32 _ (0, 0) _ HJ.out Try.underlying32 rfl SZ.out ?_)
    refine HJ1.out.mono ?_; rintro e w1 ⟨rfl, hb⟩
    rw [HOK.out]
    have B1 := hidH (bThen BB.out hb)
    clear hb
    go_wp2_with fail
    go_ret2
    exact ⟨_, rfl, Row.nil _ _ _ _ _ (Nat.zero_le _) (fun _ => rfl), B1.out.trans (((Below.refl _ _).alloc (Nat.le_refl _) _).mono B1.out.size)⟩
  · have HOK := hidH hj
    clear hj
    rw [if_pos rfl, Bool.true_and]
    go_enter Try.func5, Try.ntmps5
    go_wp2_with (refine wpList_load_row rfl 32 _ rfl w.heap.size rfl 32 _ (0, 0) _ HJ.out Try.underlying32 rfl SZ.out ?_)
    refine HJ1.out.mono ?_; rintro e w1 ⟨rfl, hb⟩
    rw [HOK.out]
    have B1 := hidH (bThen BB.out hb)
    have J1 := hidH (heap_keep HJ.out hb)
    have HVa := hidH (HV1.out.below hb)
    have HL81 := hidH (HL8.out _ HVa.out.top)
    clear hb HJ1 HL8 BB HV1
    generalize valuesA zs F C = vs at *
    generalize rtabA vs D Wy = rs at *
    generalize rtabB vs D Wy = rb at *
    have hs1 := B1.out.size
    go_wp2_with (refine wpList_load_row rfl 32 _ rfl w.heap.size rfl 32 _ (0, 0) _ J1.out Try.underlying32 rfl SZ.out ?_)
    refine HL81.out.mono ?_; rintro e w2 ⟨z, rfl, hr, hb⟩
    have B2 := hidH (bThen B1.out hb)
    have HR := hidH (hr.mono hs1 (Nat.le_refl _))
    clear hb hr
    go_wp2_with fail
    go_ret2
    exact ⟨_, rfl, HR.out, B2.out⟩
end Go.Proofs.Ytieealgmmkkgoaa
