/-
  The walks of the exact laws of LayoutValid, PagesNeeded, PlaceOf and IndexOfPlace. No conditions.
-/
import Derived.Test.YtlhinfjgabacnaaPlcC
namespace Go.Proofs.Ytlhinfjgabacnaa
set_option maxRecDepth 4000
open Go.RowKit
theorem lay_size (a b c : Value) : (Try.prog.info? 36).map (·.size) = some (#[a, b, c] : Array Value).size := by
  rw [show (#[a, b, c] : Array Value).size = 3 from rfl]
  kernel_rfl
theorem toLay_any (x y z : Int) (w : World) : Calls Try.prog 22 #[layV x y z] w (Gives (layV x y z) w) := by
  unfold layV
  have BB := hidH ((bMore ((bMore ((bMore (Below.refl w.heap.size w) (.cells #[.int .i64 x, .int .i64 y, .int .i64 z] 34))) (.cells #[.int .i64 x, .int .i64 y, .int .i64 z] 36))) (.cells #[.int .i64 x, .int .i64 y, .int .i64 z] 36)))
  have HG := hidH (show (((w.alloc (.cells #[.int .i64 x, .int .i64 y, .int .i64 z] 34)).alloc (.cells #[.int .i64 x, .int .i64 y, .int .i64 z] 36)).alloc (.cells #[.int .i64 x, .int .i64 y, .int .i64 z] 36)).heap[w.heap.size + 1]? = some (.cells #[.int .i64 x, .int .i64 y, .int .i64 z] 36 (0, 0)) by
    rw [heap_alloc_old _ _ (by simp)]
    have h := heap_alloc_new (w.alloc (.cells #[.int .i64 x, .int .i64 y, .int .i64 z] 34)) (.cells #[.int .i64 x, .int .i64 y, .int .i64 z] 36)
    simpa using h)
  go_enter Try.func22, Try.ntmps22
  go_wp2_with fail
  refine bodyPost_ret (results_cell_row Try.results22 _ _ (w.heap.size + 1) 36 _ (0, 0) _ rfl HG.out Try.underlying36 rfl (lay_size _ _ _)) rfl ?_
  exact ⟨rfl, BB.out⟩
theorem layoutValid_gives (R A W : Int) (w : World) : Calls Try.prog 23 #[layV R A W] w (Gives (.bool (layOk R A W)) w) :=
  (layoutValid_any R A W w).mono fun _ _ ⟨a, b⟩ => ⟨a, by rw [b]; exact bMore (Below.refl _ _) _⟩
theorem sLayoutValid_gives (R A W : Int) (w : World) : Calls Try.prog 21 #[layV R A W] w (Gives (.bool (layOk R A W)) w) :=
  (sLayoutValid_any R A W w).mono fun _ _ ⟨a, b⟩ => ⟨a, by rw [b]; exact bMore (Below.refl _ _) _⟩
theorem exLayoutValid (a0 a1 a2 : Int) (w : World) : Calls Try.prog 6 #[layV a0 a1 a2] w (Gives (.bool true) w) := by
  have HS := hidH (fun W => sLayoutValid_gives a0 a1 a2 W)
  have HI := hidH (fun W => layoutValid_gives a0 a1 a2 W)
  generalize layOk a0 a1 a2 = r0 at *
  have HT := hidH (fun W => toLay_any a0 a1 a2 W)
  unfold layV at *
  cases r0
  all_goals (
    go_enter Try.func6, Try.ntmps6
    go_wp2_with fail
    have B0 := hidH (bMore (Below.refl w.heap.size w) (.cells #[.int .i64 a0, .int .i64 a1, .int .i64 a2] 34))
    have G0 := hidH (show (w.alloc (.cells #[.int .i64 a0, .int .i64 a1, .int .i64 a2] 34)).heap[w.heap.size]? = some (.cells #[.int .i64 a0, .int .i64 a1, .int .i64 a2] 34) from heap_alloc_new w _)
    refine (HT.out _).mono ?_; rintro e w1 ⟨rfl, hb⟩
    have B1 := hidH (bThen B0.out hb)
    have G1 := hidH (show w1.heap[w.heap.size]? = some (.cells #[.int .i64 a0, .int .i64 a1, .int .i64 a2] 34) from by rw [hb.block _ (by simp)]; exact G0.out)
    clear hb B0 G0
    go_wp2_with fail
    refine (HS.out _).mono ?_; rintro e w2 ⟨rfl, hb⟩
    have B2 := hidH (bThen B1.out hb)
    have G2 := hidH (show w2.heap[w.heap.size]? = some (.cells #[.int .i64 a0, .int .i64 a1, .int .i64 a2] 34) from by rw [hb.block _ (Array.getElem?_eq_some_iff.1 G1.out).1]; exact G1.out)
    have c0 : w2.cell? ⟨w.heap.size, 0, none⟩ = some (.int .i64 a0) := by simp [World.cell?, G2.out]
    have c1 : w2.cell? ⟨w.heap.size, 1, none⟩ = some (.int .i64 a1) := by simp [World.cell?, G2.out]
    have c2 : w2.cell? ⟨w.heap.size, 2, none⟩ = some (.int .i64 a2) := by simp [World.cell?, G2.out]
    clear hb B1 G1
    go_wp2_with fail
    refine (HT.out _).mono ?_; rintro e w3 ⟨rfl, hb⟩
    have B3 := hidH (bThen B2.out hb)
    clear hb B2 G2 c0 c1 c2
    go_wp2_with fail
    refine (HI.out _).mono ?_; rintro e w4 ⟨rfl, hb⟩
    have B4 := hidH (bThen B3.out hb)
    clear hb B3
    go_wp2_with fail
    go_ret
    exact ⟨rfl, B4.out⟩)
theorem exPagesNeeded (a0 a1 a2 n0 : Int) (w : World) : Calls Try.prog 7 #[layV a0 a1 a2, .int .i64 n0] w (Gives (.bool true) w) := by
  have HS := hidH (fun W => sPagesNeeded_any a0 a1 a2 n0 W)
  have HI := hidH (fun W => pagesNeeded_any a0 a1 a2 n0 W)
  generalize pagesA a0 a1 a2 n0 = r0 at *
  have HT := hidH (fun W => toLay_any a0 a1 a2 W)
  unfold layV at *
  go_enter Try.func7, Try.ntmps7
  go_wp2_with fail
  have B0 := hidH (bMore (Below.refl w.heap.size w) (.cells #[.int .i64 a0, .int .i64 a1, .int .i64 a2] 34))
  have G0 := hidH (show (w.alloc (.cells #[.int .i64 a0, .int .i64 a1, .int .i64 a2] 34)).heap[w.heap.size]? = some (.cells #[.int .i64 a0, .int .i64 a1, .int .i64 a2] 34) from heap_alloc_new w _)
  refine (HT.out _).mono ?_; rintro e w1 ⟨rfl, hb⟩
  have B1 := hidH (bThen B0.out hb)
  have G1 := hidH (show w1.heap[w.heap.size]? = some (.cells #[.int .i64 a0, .int .i64 a1, .int .i64 a2] 34) from by rw [hb.block _ (by simp)]; exact G0.out)
  clear hb B0 G0
  go_wp2_with fail
  refine (HS.out _).mono ?_; rintro e w2 ⟨rfl, hb⟩
  have B2 := hidH (bThen B1.out hb)
  have G2 := hidH (show w2.heap[w.heap.size]? = some (.cells #[.int .i64 a0, .int .i64 a1, .int .i64 a2] 34) from by rw [hb.block _ (Array.getElem?_eq_some_iff.1 G1.out).1]; exact G1.out)
  have c0 : w2.cell? ⟨w.heap.size, 0, none⟩ = some (.int .i64 a0) := by simp [World.cell?, G2.out]
  have c1 : w2.cell? ⟨w.heap.size, 1, none⟩ = some (.int .i64 a1) := by simp [World.cell?, G2.out]
  have c2 : w2.cell? ⟨w.heap.size, 2, none⟩ = some (.int .i64 a2) := by simp [World.cell?, G2.out]
  clear hb B1 G1
  go_wp2_with fail
  refine (HT.out _).mono ?_; rintro e w3 ⟨rfl, hb⟩
  have B3 := hidH (bThen B2.out hb)
  clear hb B2 G2 c0 c1 c2
  go_wp2_with fail
  refine (HI.out _).mono ?_; rintro e w4 ⟨rfl, hb⟩
  have B4 := hidH (bThen B3.out hb)
  clear hb B3
  go_wp2_with fail
  go_ret
  exact ⟨rfl, B4.out⟩
theorem exPlaceOf (a0 a1 a2 n0 : Int) (w : World) : Calls Try.prog 8 #[layV a0 a1 a2, .int .i64 n0] w (Gives (.bool true) w) := by
  have HS := hidH (fun W => sPlaceOf_any a0 a1 a2 n0 W)
  have HI := hidH (fun W => placeOf_any a0 a1 a2 n0 W)
  generalize plP a0 a1 a2 n0 = r0 at *
  generalize plR a0 a1 a2 n0 = r1 at *
  generalize plC a0 a1 a2 n0 = r2 at *
  generalize plB a0 a1 a2 n0 = r3 at *
  have HT := hidH (fun W => toLay_any a0 a1 a2 W)
  unfold layV at *
  cases r3
  all_goals (
    go_enter Try.func8, Try.ntmps8
    go_wp2_with fail
    have B0 := hidH (bMore (Below.refl w.heap.size w) (.cells #[.int .i64 a0, .int .i64 a1, .int .i64 a2] 34))
    have G0 := hidH (show (w.alloc (.cells #[.int .i64 a0, .int .i64 a1, .int .i64 a2] 34)).heap[w.heap.size]? = some (.cells #[.int .i64 a0, .int .i64 a1, .int .i64 a2] 34) from heap_alloc_new w _)
    refine (HT.out _).mono ?_; rintro e w1 ⟨rfl, hb⟩
    have B1 := hidH (bThen B0.out hb)
    have G1 := hidH (show w1.heap[w.heap.size]? = some (.cells #[.int .i64 a0, .int .i64 a1, .int .i64 a2] 34) from by rw [hb.block _ (by simp)]; exact G0.out)
    clear hb B0 G0
    go_wp2_with fail
    refine (HS.out _).mono ?_; rintro e w2 ⟨rfl, hb⟩
    have B2 := hidH (bThen B1.out hb)
    have G2 := hidH (show w2.heap[w.heap.size]? = some (.cells #[.int .i64 a0, .int .i64 a1, .int .i64 a2] 34) from by rw [hb.block _ (Array.getElem?_eq_some_iff.1 G1.out).1]; exact G1.out)
    have c0 : w2.cell? ⟨w.heap.size, 0, none⟩ = some (.int .i64 a0) := by simp [World.cell?, G2.out]
    have c1 : w2.cell? ⟨w.heap.size, 1, none⟩ = some (.int .i64 a1) := by simp [World.cell?, G2.out]
    have c2 : w2.cell? ⟨w.heap.size, 2, none⟩ = some (.int .i64 a2) := by simp [World.cell?, G2.out]
    clear hb B1 G1
    go_wp2_with fail
    refine (HT.out _).mono ?_; rintro e w3 ⟨rfl, hb⟩
    have B3 := hidH (bThen B2.out hb)
    clear hb B2 G2 c0 c1 c2
    go_wp2_with fail
    refine (HI.out _).mono ?_; rintro e w4 ⟨rfl, hb⟩
    have B4 := hidH (bThen B3.out hb)
    clear hb B3
    go_wp2_with fail
    go_ret
    exact ⟨rfl, B4.out⟩)
theorem exIndexOfPlace (a0 a1 a2 n0 n1 n2 : Int) (w : World) : Calls Try.prog 9 #[layV a0 a1 a2, .int .i64 n0, .int .i64 n1, .int .i64 n2] w (Gives (.bool true) w) := by
  have HS := hidH (fun W => sIndexOf_any a0 a1 a2 n0 n1 n2 W)
  have HI := hidH (fun W => indexOf_any a0 a1 a2 n0 n1 n2 W)
  generalize ixA a0 a1 a2 n0 n1 n2 = r0 at *
  have HT := hidH (fun W => toLay_any a0 a1 a2 W)
  unfold layV at *
  go_enter Try.func9, Try.ntmps9
  go_wp2_with fail
  have B0 := hidH (bMore (Below.refl w.heap.size w) (.cells #[.int .i64 a0, .int .i64 a1, .int .i64 a2] 34))
  have G0 := hidH (show (w.alloc (.cells #[.int .i64 a0, .int .i64 a1, .int .i64 a2] 34)).heap[w.heap.size]? = some (.cells #[.int .i64 a0, .int .i64 a1, .int .i64 a2] 34) from heap_alloc_new w _)
  refine (HT.out _).mono ?_; rintro e w1 ⟨rfl, hb⟩
  have B1 := hidH (bThen B0.out hb)
  have G1 := hidH (show w1.heap[w.heap.size]? = some (.cells #[.int .i64 a0, .int .i64 a1, .int .i64 a2] 34) from by rw [hb.block _ (by simp)]; exact G0.out)
  clear hb B0 G0
  go_wp2_with fail
  refine (HS.out _).mono ?_; rintro e w2 ⟨rfl, hb⟩
  have B2 := hidH (bThen B1.out hb)
  have G2 := hidH (show w2.heap[w.heap.size]? = some (.cells #[.int .i64 a0, .int .i64 a1, .int .i64 a2] 34) from by rw [hb.block _ (Array.getElem?_eq_some_iff.1 G1.out).1]; exact G1.out)
  have c0 : w2.cell? ⟨w.heap.size, 0, none⟩ = some (.int .i64 a0) := by simp [World.cell?, G2.out]
  have c1 : w2.cell? ⟨w.heap.size, 1, none⟩ = some (.int .i64 a1) := by simp [World.cell?, G2.out]
  have c2 : w2.cell? ⟨w.heap.size, 2, none⟩ = some (.int .i64 a2) := by simp [World.cell?, G2.out]
  clear hb B1 G1
  go_wp2_with fail
  refine (HT.out _).mono ?_; rintro e w3 ⟨rfl, hb⟩
  have B3 := hidH (bThen B2.out hb)
  clear hb B2 G2 c0 c1 c2
  go_wp2_with fail
  refine (HI.out _).mono ?_; rintro e w4 ⟨rfl, hb⟩
  have B4 := hidH (bThen B3.out hb)
  clear hb B3
  go_wp2_with fail
  go_ret
  exact ⟨rfl, B4.out⟩
end Go.Proofs.Ytlhinfjgabacnaa
