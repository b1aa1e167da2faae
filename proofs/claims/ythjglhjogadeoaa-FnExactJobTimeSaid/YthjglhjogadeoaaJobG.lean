/-
  The walks of the exact laws of JobValid and JobTime. Condition: at most 1048576 differences.
-/
import Derived.Test.YthjglhjogadeoaaJobF
namespace Go.Proofs.Ythjglhjogadeoaa
set_option maxRecDepth 4000
open Go.RowKit
set_option maxHeartbeats 6400000 in
theorem exJobTime (v : Value) (zs : List Int) (F C Wd D Wy R A Wi : Int) (w : World) (hv : Lies w 0 w.heap.size v zs) : Calls Try.prog 9 #[jobV v F C Wd D Wy R A Wi] w (Gives (.bool true) w) := by
  have HV := hidH hv
  obtain ⟨av, cv, rfl, hlc, hcm, _, _⟩ := hv
  have B0 := hidH (bMore (Below.refl w.heap.size w) (.cells (jobC (.slice av zs.length cv) F C Wd D Wy R A Wi) 34))
  have J0 := hidH (show JobAt (w.alloc (.cells (jobC (.slice av zs.length cv) F C Wd D Wy R A Wi) 34)) w.heap.size 34 (jobC (.slice av zs.length cv) F C Wd D Wy R A Wi) from heap_alloc_new w _)
  have LV0 := hidH (HV.out.below B0.out)
  have HSZ := hidH (fun W => szJob_any av zs.length cv F C Wd D Wy R A Wi W 1048576 hlc hcm (Nat.le_refl _))
  have HS := hidH (fun u W lo hi (h : Lies W lo hi u zs) => sJobTime_any u zs F C Wd D Wy R A Wi W lo hi h)
  have HI := hidH (fun u W lo hi (h : Lies W lo hi u zs) => jobTime_any u zs F C Wd D Wy R A Wi W lo hi h)
  have HEQ := hidH (fun u x W l1 h1 l2 h2 hu hx => eqJob_yes u x zs F C Wd D Wy R A Wi W l1 h1 l2 h2 hu hx)
  generalize jobT zs F C Wd D Wy R A Wi = rr at *
  have HTJ0 := hidH (fun W (h : Lies W 0 W.heap.size (.slice av zs.length cv) zs) (hn : zs.length ≤ 1048576) => toJob_any (.slice av zs.length cv) zs F C Wd D Wy R A Wi W h hn)
  have SZv := hidH (job_size (.slice av zs.length cv) F C Wd D Wy R A Wi)
  unfold maxLen at hcm
  unfold jobV at *
  unfold jobC at *
  go_enter Try.func9, Try.ntmps9
  go_wp2_with fail
  refine (HSZ.out _).mono ?_; rintro e w1 ⟨h | h, hb⟩
  rotate_left
  · subst h
    have B1 := hidH (bThen B0.out hb)
    clear hb
    go_wp2_with fail
    go_ret
    exact ⟨rfl, B1.out⟩
  obtain ⟨hn, rfl⟩ := h
  have hn0 : (0 : Int) ≤ ((1048576 - zs.length : Nat) : Int) := by omega
  have hnn : ¬ ((1048576 - zs.length : Nat) : Int) < 0 := by omega
  have B1 := hidH (bThen B0.out hb)
  have J1 := hidH (J0.out.below hb)
  have LV1 := hidH (LV0.out.below hb)
  have HTJ := hidH (fun W h => HTJ0.out W h hn)
  clear hb B0 J0 LV0 HSZ HTJ0
  have p0 := J1.out.cell 0 _ rfl
  have p1 := J1.out.cell 1 _ rfl
  have p2 := J1.out.cell 2 _ rfl
  have p3 := J1.out.cell 3 _ rfl
  have p4 := J1.out.cell 4 _ rfl
  have p5 := J1.out.cell 5 _ rfl
  have p6 := J1.out.cell 6 _ rfl
  have p7 := J1.out.cell 7 _ rfl
  have p8 := J1.out.cell 8 _ rfl
  go_wp2_with fail
  refine (HTJ.out _ LV1.out.top).mono ?_; rintro e w2 ⟨ta, tc, rfl, hr, hb⟩
  have B2 := hidH (bThen B1.out hb)
  have J2 := hidH (J1.out.below hb)
  have LV2 := hidH (LV1.out.below hb)
  have T2 := hidH hr
  clear hb hr B1 J1 LV1 p0 p1 p2 p3 p4 p5 p6 p7 p8
  go_wp2_with fail
  refine (HS.out _ _ _ _ T2.out.lies).mono ?_; rintro e w3 ⟨rfl, hb⟩
  have B3 := hidH (bThen B2.out hb)
  have J3 := hidH (J2.out.below hb)
  have LV3 := hidH (LV2.out.below hb)
  clear hb B2 J2 LV2 T2
  have p0 := J3.out.cell 0 _ rfl
  have p1 := J3.out.cell 1 _ rfl
  have p2 := J3.out.cell 2 _ rfl
  have p3 := J3.out.cell 3 _ rfl
  have p4 := J3.out.cell 4 _ rfl
  have p5 := J3.out.cell 5 _ rfl
  have p6 := J3.out.cell 6 _ rfl
  have p7 := J3.out.cell 7 _ rfl
  have p8 := J3.out.cell 8 _ rfl
  go_wp2_with fail
  refine (HTJ.out _ LV3.out.top).mono ?_; rintro e w4 ⟨xa, xc, rfl, hr, hb⟩
  have B4 := hidH (bThen B3.out hb)
  have J4 := hidH (J3.out.below hb)
  have LV4 := hidH (LV3.out.below hb)
  have hs4 := hb.size
  have B5 := hidH (bMore B4.out (.cells #[.slice xa zs.length xc, .int .i64 F, .int .i64 C, .int .i64 Wd, .int .i64 D, .int .i64 Wy, .int .i64 R, .int .i64 A, .int .i64 Wi] 39))
  have J5 := hidH (J4.out.below ((Below.refl _ w4).alloc (Nat.le_refl _) (.cells #[.slice xa zs.length xc, .int .i64 F, .int .i64 C, .int .i64 Wd, .int .i64 D, .int .i64 Wy, .int .i64 R, .int .i64 A, .int .i64 Wi] 39)))
  have K5 := hidH (show JobAt (w4.alloc (.cells #[.slice xa zs.length xc, .int .i64 F, .int .i64 C, .int .i64 Wd, .int .i64 D, .int .i64 Wy, .int .i64 R, .int .i64 A, .int .i64 Wi] 39)) w4.heap.size 39 #[.slice xa zs.length xc, .int .i64 F, .int .i64 C, .int .i64 Wd, .int .i64 D, .int .i64 Wy, .int .i64 R, .int .i64 A, .int .i64 Wi] from heap_alloc_new w4 _)
  have LV5 := hidH (LV4.out.below ((Below.refl _ w4).alloc (Nat.le_refl _) (.cells #[.slice xa zs.length xc, .int .i64 F, .int .i64 C, .int .i64 Wd, .int .i64 D, .int .i64 Wy, .int .i64 R, .int .i64 A, .int .i64 Wi] 39)))
  have R5 := hidH (hr.below ((Below.refl _ w4).alloc (Nat.le_refl _) (.cells #[.slice xa zs.length xc, .int .i64 F, .int .i64 C, .int .i64 Wd, .int .i64 D, .int .i64 Wy, .int .i64 R, .int .i64 A, .int .i64 Wi] 39)))
  clear hb hr B3 J3 LV3 B4 J4 LV4 p0 p1 p2 p3 p4 p5 p6 p7 p8
  have p0 := K5.out.cell 0 _ rfl
  have p1 := K5.out.cell 1 _ rfl
  have p2 := K5.out.cell 2 _ rfl
  have p3 := K5.out.cell 3 _ rfl
  have p4 := K5.out.cell 4 _ rfl
  have p5 := K5.out.cell 5 _ rfl
  have p6 := K5.out.cell 6 _ rfl
  have p7 := K5.out.cell 7 _ rfl
  have p8 := K5.out.cell 8 _ rfl
  go_wp2_with fail
  refine (HI.out _ _ _ _ R5.out.lies).mono ?_; rintro e w6 ⟨rfl, hb⟩
  have B6 := hidH (bThen B5.out hb)
  have J6 := hidH (J5.out.below hb)
  have K6 := hidH (K5.out.below hb)
  have LV6 := hidH (LV5.out.below hb)
  have R6 := hidH (R5.out.below hb)
  clear hb B5 J5 K5 LV5 R5 p0 p1 p2 p3 p4 p5 p6 p7 p8
  have hrr : (rr != rr) = false := bne_self_eq_false rr
  have B6d := hidH (show Below w.heap.size w w6.drew from B6.out.drew)
  have J6d := hidH (show JobAt w6.drew w.heap.size 34 _ from J6.out)
  have K6d := hidH (show JobAt w6.drew w4.heap.size 39 _ from K6.out)
  have LVd := hidH (show Lies w6.drew 0 w6.drew.heap.size (.slice av zs.length cv) zs from (LV6.out.below (Below.refl _ _).drew).top)
  have R6d := hidH (show Row w6.drew _ _ _ zs from R6.out.below (Below.refl _ _).drew)
  have d0 := K6d.out.cell 0 _ rfl
  have d1 := K6d.out.cell 1 _ rfl
  have d2 := K6d.out.cell 2 _ rfl
  have d3 := K6d.out.cell 3 _ rfl
  have d4 := K6d.out.cell 4 _ rfl
  have d5 := K6d.out.cell 5 _ rfl
  have d6 := K6d.out.cell 6 _ rfl
  have d7 := K6d.out.cell 7 _ rfl
  have d8 := K6d.out.cell 8 _ rfl
  have e0 := J6d.out.cell 0 _ rfl
  have e1 := J6d.out.cell 1 _ rfl
  have e2 := J6d.out.cell 2 _ rfl
  have e3 := J6d.out.cell 3 _ rfl
  have e4 := J6d.out.cell 4 _ rfl
  have e5 := J6d.out.cell 5 _ rfl
  have e6 := J6d.out.cell 6 _ rfl
  have e7 := J6d.out.cell 7 _ rfl
  have e8 := J6d.out.cell 8 _ rfl
  go_wp2_with fail
  refine wp_region_held_drew (S := fun w' => w'.cell? ⟨w4.heap.size, 0, none⟩ = some (.slice xa zs.length xc) ∧ w'.cell? ⟨w4.heap.size, 1, none⟩ = some (.int .i64 F) ∧ w'.cell? ⟨w4.heap.size, 2, none⟩ = some (.int .i64 C) ∧ w'.cell? ⟨w4.heap.size, 3, none⟩ = some (.int .i64 Wd) ∧ w'.cell? ⟨w4.heap.size, 4, none⟩ = some (.int .i64 D) ∧ w'.cell? ⟨w4.heap.size, 5, none⟩ = some (.int .i64 Wy) ∧ w'.cell? ⟨w4.heap.size, 6, none⟩ = some (.int .i64 R) ∧ w'.cell? ⟨w4.heap.size, 7, none⟩ = some (.int .i64 A) ∧ w'.cell? ⟨w4.heap.size, 8, none⟩ = some (.int .i64 Wi) ∧ w'.cell? ⟨w.heap.size, 0, none⟩ = some (.slice av zs.length cv) ∧ w'.cell? ⟨w.heap.size, 1, none⟩ = some (.int .i64 F) ∧ w'.cell? ⟨w.heap.size, 2, none⟩ = some (.int .i64 C) ∧ w'.cell? ⟨w.heap.size, 3, none⟩ = some (.int .i64 Wd) ∧ w'.cell? ⟨w.heap.size, 4, none⟩ = some (.int .i64 D) ∧ w'.cell? ⟨w.heap.size, 5, none⟩ = some (.int .i64 Wy) ∧ w'.cell? ⟨w.heap.size, 6, none⟩ = some (.int .i64 R) ∧ w'.cell? ⟨w.heap.size, 7, none⟩ = some (.int .i64 A) ∧ w'.cell? ⟨w.heap.size, 8, none⟩ = some (.int .i64 Wi)) (by kernel_rfl) ⟨d0, d1, d2, d3, d4, d5, d6, d7, d8, e0, e1, e2, e3, e4, e5, e6, e7, e8⟩ (fun hHeld => ?_)
  try dsimp only
  refine onG 0 (some 22) (v := ?v31_) (by kernel_rfl) (by kernel_rfl) (by kernel_rfl) (fun _ _ _ h => h) (by rfl) hHeld ?hy31_ ?rest31_
  case hy31_ =>
    intro o ho; simp only [List.getElem?_toArray, List.getElem?_cons_zero, Option.some.injEq] at ho; subst ho; intro w hSw; (try dsimp only at hSw)
    go_simp
    try with_reducible rfl
  case rest31_ =>
  try simp only [Act.put, List.setIfInBounds_toArray, List.set_cons_zero, List.set_cons_succ]
  refine onG 1 (some 23) (v := ?v32_) (by kernel_rfl) (by kernel_rfl) (by kernel_rfl) (fun _ _ _ h => h) (by rfl) hHeld ?hy32_ ?rest32_
  case hy32_ =>
    intro o ho; simp only [List.getElem?_toArray, List.getElem?_cons_succ, List.getElem?_cons_zero, Option.some.injEq] at ho; subst ho; intro w hSw; (try dsimp only at hSw)
    go_simp
    try with_reducible rfl
  case rest32_ =>
  try simp only [Act.put, List.setIfInBounds_toArray, List.set_cons_zero, List.set_cons_succ]
  refine callG 2 (by kernel_rfl) ?_
  intro o ho; simp only [List.getElem?_toArray, List.getElem?_cons_succ, List.getElem?_cons_zero, Option.some.injEq] at ho; subst ho; intro K hK
  go_simp
  go_at_call 26
  (with_reducible refine (HTJ.out _ (LVd.out)).mono ?_)
  rintro e w7 ⟨ya, yc, rfl, hr, hb⟩
  (have BX := hidH (bThen B6d.out hb))
  (have KX := hidH (K6d.out.below hb))
  (have KY := hidH (J6d.out.below hb))
  (have RX := hidH (R6d.out.below hb))
  (have RY := hidH hr)
  (have f0 := KX.out.cell 0 _ rfl)
  (have f1 := KX.out.cell 1 _ rfl)
  (have f2 := KX.out.cell 2 _ rfl)
  (have f3 := KX.out.cell 3 _ rfl)
  (have f4 := KX.out.cell 4 _ rfl)
  (have f5 := KX.out.cell 5 _ rfl)
  (have f6 := KX.out.cell 6 _ rfl)
  (have f7 := KX.out.cell 7 _ rfl)
  (have f8 := KX.out.cell 8 _ rfl)
  (have g0 := KY.out.cell 0 _ rfl)
  (have g1 := KY.out.cell 1 _ rfl)
  (have g2 := KY.out.cell 2 _ rfl)
  (have g3 := KY.out.cell 3 _ rfl)
  (have g4 := KY.out.cell 4 _ rfl)
  (have g5 := KY.out.cell 5 _ rfl)
  (have g6 := KY.out.cell 6 _ rfl)
  (have g7 := KY.out.cell 7 _ rfl)
  (have g8 := KY.out.cell 8 _ rfl)
  (clear hb hr hHeld)
  go_wp2_with fail
  refine hK.out _ _ ?_ (fun hHeld => ?_)
  · exact ⟨f0, f1, f2, f3, f4, f5, f6, f7, f8, g0, g1, g2, g3, g4, g5, g6, g7, g8⟩
  clear hK K
  try simp only [Act.put, List.setIfInBounds_toArray, List.set_cons_zero, List.set_cons_succ]
  refine callG 3 (by kernel_rfl) ?_
  intro o ho; simp only [List.getElem?_toArray, List.getElem?_cons_succ, List.getElem?_cons_zero, Option.some.injEq] at ho; subst ho; intro K hK
  go_simp
  go_at_call 28
  (with_reducible refine (HEQ.out _ _ _ _ _ _ _ RX.out.lies RY.out.lies).mono ?_)
  rintro e w8 ⟨rfl, hb⟩
  (have BY := hidH (bThen BX.out hb))
  (have KX2 := hidH (KX.out.below hb))
  (have KY2 := hidH (KY.out.below hb))
  (have h0 := KX2.out.cell 0 _ rfl)
  (have h1 := KX2.out.cell 1 _ rfl)
  (have h2 := KX2.out.cell 2 _ rfl)
  (have h3 := KX2.out.cell 3 _ rfl)
  (have h4 := KX2.out.cell 4 _ rfl)
  (have h5 := KX2.out.cell 5 _ rfl)
  (have h6 := KX2.out.cell 6 _ rfl)
  (have h7 := KX2.out.cell 7 _ rfl)
  (have h8 := KX2.out.cell 8 _ rfl)
  (have k0 := KY2.out.cell 0 _ rfl)
  (have k1 := KY2.out.cell 1 _ rfl)
  (have k2 := KY2.out.cell 2 _ rfl)
  (have k3 := KY2.out.cell 3 _ rfl)
  (have k4 := KY2.out.cell 4 _ rfl)
  (have k5 := KY2.out.cell 5 _ rfl)
  (have k6 := KY2.out.cell 6 _ rfl)
  (have k7 := KY2.out.cell 7 _ rfl)
  (have k8 := KY2.out.cell 8 _ rfl)
  (clear hb hHeld)
  go_wp2_with fail
  refine hK.out _ _ ?_ (fun hHeld => ?_)
  · exact ⟨h0, h1, h2, h3, h4, h5, h6, h7, h8, k0, k1, k2, k3, k4, k5, k6, k7, k8⟩
  clear hK K
  try simp only [Act.put, List.setIfInBounds_toArray, List.set_cons_zero, List.set_cons_succ]
  refine onG 4 (some 26) (v := ?v33_) (by kernel_rfl) (by kernel_rfl) (by kernel_rfl) (fun _ _ _ h => h) (by rfl) hHeld ?hy33_ ?rest33_
  case hy33_ =>
    intro o ho; simp only [List.getElem?_toArray, List.getElem?_cons_succ, List.getElem?_cons_zero, Option.some.injEq] at ho; subst ho; intro w hSw; (try dsimp only at hSw)
    go_simp
    try with_reducible rfl
  case rest33_ =>
  try simp only [Act.put, List.setIfInBounds_toArray, List.set_cons_zero, List.set_cons_succ]
  refine wpAnyH_done (by kernel_rfl) ?_ _
  go_wp2_with fail
  go_ret
  exact ⟨rfl, BY.out⟩
set_option maxHeartbeats 6400000 in
theorem exJobValid (v : Value) (zs : List Int) (F C Wd D Wy R A Wi : Int) (w : World) (hv : Lies w 0 w.heap.size v zs) : Calls Try.prog 8 #[jobV v F C Wd D Wy R A Wi] w (Gives (.bool true) w) := by
  have HV := hidH hv
  obtain ⟨av, cv, rfl, hlc, hcm, _, _⟩ := hv
  have B0 := hidH (bMore (Below.refl w.heap.size w) (.cells (jobC (.slice av zs.length cv) F C Wd D Wy R A Wi) 34))
  have J0 := hidH (show JobAt (w.alloc (.cells (jobC (.slice av zs.length cv) F C Wd D Wy R A Wi) 34)) w.heap.size 34 (jobC (.slice av zs.length cv) F C Wd D Wy R A Wi) from heap_alloc_new w _)
  have LV0 := hidH (HV.out.below B0.out)
  have HSZ := hidH (fun W => szJob_any av zs.length cv F C Wd D Wy R A Wi W 1048576 hlc hcm (Nat.le_refl _))
  have HS := hidH (fun u W lo hi (h : Lies W lo hi u zs) => sJobValid_any u zs F C Wd D Wy R A Wi W lo hi h)
  have HI := hidH (fun u W lo hi (h : Lies W lo hi u zs) => jobValid_any u zs F C Wd D Wy R A Wi W lo hi h)
  have HEQ := hidH (fun u x W l1 h1 l2 h2 hu hx => eqJob_yes u x zs F C Wd D Wy R A Wi W l1 h1 l2 h2 hu hx)
  generalize jobOk zs F C Wd D Wy R A Wi = rr at *
  have HTJ0 := hidH (fun W (h : Lies W 0 W.heap.size (.slice av zs.length cv) zs) (hn : zs.length ≤ 1048576) => toJob_any (.slice av zs.length cv) zs F C Wd D Wy R A Wi W h hn)
  have SZv := hidH (job_size (.slice av zs.length cv) F C Wd D Wy R A Wi)
  unfold maxLen at hcm
  unfold jobV at *
  unfold jobC at *
  go_enter Try.func8, Try.ntmps8
  go_wp2_with fail
  refine (HSZ.out _).mono ?_; rintro e w1 ⟨h | h, hb⟩
  rotate_left
  · subst h
    have B1 := hidH (bThen B0.out hb)
    clear hb
    go_wp2_with fail
    go_ret
    exact ⟨rfl, B1.out⟩
  obtain ⟨hn, rfl⟩ := h
  have hn0 : (0 : Int) ≤ ((1048576 - zs.length : Nat) : Int) := by omega
  have hnn : ¬ ((1048576 - zs.length : Nat) : Int) < 0 := by omega
  have B1 := hidH (bThen B0.out hb)
  have J1 := hidH (J0.out.below hb)
  have LV1 := hidH (LV0.out.below hb)
  have HTJ := hidH (fun W h => HTJ0.out W h hn)
  clear hb B0 J0 LV0 HSZ HTJ0
  have p0 := J1.out.cell 0 _ rfl
  have p1 := J1.out.cell 1 _ rfl
  have p2 := J1.out.cell 2 _ rfl
  have p3 := J1.out.cell 3 _ rfl
  have p4 := J1.out.cell 4 _ rfl
  have p5 := J1.out.cell 5 _ rfl
  have p6 := J1.out.cell 6 _ rfl
  have p7 := J1.out.cell 7 _ rfl
  have p8 := J1.out.cell 8 _ rfl
  go_wp2_with fail
  refine (HTJ.out _ LV1.out.top).mono ?_; rintro e w2 ⟨ta, tc, rfl, hr, hb⟩
  have B2 := hidH (bThen B1.out hb)
  have J2 := hidH (J1.out.below hb)
  have LV2 := hidH (LV1.out.below hb)
  have T2 := hidH hr
  clear hb hr B1 J1 LV1 p0 p1 p2 p3 p4 p5 p6 p7 p8
  go_wp2_with fail
  refine (HS.out _ _ _ _ T2.out.lies).mono ?_; rintro e w3 ⟨rfl, hb⟩
  have B3 := hidH (bThen B2.out hb)
  have J3 := hidH (J2.out.below hb)
  have LV3 := hidH (LV2.out.below hb)
  clear hb B2 J2 LV2 T2
  have p0 := J3.out.cell 0 _ rfl
  have p1 := J3.out.cell 1 _ rfl
  have p2 := J3.out.cell 2 _ rfl
  have p3 := J3.out.cell 3 _ rfl
  have p4 := J3.out.cell 4 _ rfl
  have p5 := J3.out.cell 5 _ rfl
  have p6 := J3.out.cell 6 _ rfl
  have p7 := J3.out.cell 7 _ rfl
  have p8 := J3.out.cell 8 _ rfl
  go_wp2_with fail
  refine (HTJ.out _ LV3.out.top).mono ?_; rintro e w4 ⟨xa, xc, rfl, hr, hb⟩
  have B4 := hidH (bThen B3.out hb)
  have J4 := hidH (J3.out.below hb)
  have LV4 := hidH (LV3.out.below hb)
  have hs4 := hb.size
  have B5 := hidH (bMore B4.out (.cells #[.slice xa zs.length xc, .int .i64 F, .int .i64 C, .int .i64 Wd, .int .i64 D, .int .i64 Wy, .int .i64 R, .int .i64 A, .int .i64 Wi] 39))
  have J5 := hidH (J4.out.below ((Below.refl _ w4).alloc (Nat.le_refl _) (.cells #[.slice xa zs.length xc, .int .i64 F, .int .i64 C, .int .i64 Wd, .int .i64 D, .int .i64 Wy, .int .i64 R, .int .i64 A, .int .i64 Wi] 39)))
  have K5 := hidH (show JobAt (w4.alloc (.cells #[.slice xa zs.length xc, .int .i64 F, .int .i64 C, .int .i64 Wd, .int .i64 D, .int .i64 Wy, .int .i64 R, .int .i64 A, .int .i64 Wi] 39)) w4.heap.size 39 #[.slice xa zs.length xc, .int .i64 F, .int .i64 C, .int .i64 Wd, .int .i64 D, .int .i64 Wy, .int .i64 R, .int .i64 A, .int .i64 Wi] from heap_alloc_new w4 _)
  have LV5 := hidH (LV4.out.below ((Below.refl _ w4).alloc (Nat.le_refl _) (.cells #[.slice xa zs.length xc, .int .i64 F, .int .i64 C, .int .i64 Wd, .int .i64 D, .int .i64 Wy, .int .i64 R, .int .i64 A, .int .i64 Wi] 39)))
  have R5 := hidH (hr.below ((Below.refl _ w4).alloc (Nat.le_refl _) (.cells #[.slice xa zs.length xc, .int .i64 F, .int .i64 C, .int .i64 Wd, .int .i64 D, .int .i64 Wy, .int .i64 R, .int .i64 A, .int .i64 Wi] 39)))
  clear hb hr B3 J3 LV3 B4 J4 LV4 p0 p1 p2 p3 p4 p5 p6 p7 p8
  have p0 := K5.out.cell 0 _ rfl
  have p1 := K5.out.cell 1 _ rfl
  have p2 := K5.out.cell 2 _ rfl
  have p3 := K5.out.cell 3 _ rfl
  have p4 := K5.out.cell 4 _ rfl
  have p5 := K5.out.cell 5 _ rfl
  have p6 := K5.out.cell 6 _ rfl
  have p7 := K5.out.cell 7 _ rfl
  have p8 := K5.out.cell 8 _ rfl
  go_wp2_with fail
  refine (HI.out _ _ _ _ R5.out.lies).mono ?_; rintro e w6 ⟨rfl, hb⟩
  have B6 := hidH (bThen B5.out hb)
  have J6 := hidH (J5.out.below hb)
  have K6 := hidH (K5.out.below hb)
  have LV6 := hidH (LV5.out.below hb)
  have R6 := hidH (R5.out.below hb)
  clear hb B5 J5 K5 LV5 R5 p0 p1 p2 p3 p4 p5 p6 p7 p8
  have hrr : (rr != rr) = false := bne_self_eq_false rr
  have B6d := hidH (show Below w.heap.size w w6.drew from B6.out.drew)
  have J6d := hidH (show JobAt w6.drew w.heap.size 34 _ from J6.out)
  have K6d := hidH (show JobAt w6.drew w4.heap.size 39 _ from K6.out)
  have LVd := hidH (show Lies w6.drew 0 w6.drew.heap.size (.slice av zs.length cv) zs from (LV6.out.below (Below.refl _ _).drew).top)
  have R6d := hidH (show Row w6.drew _ _ _ zs from R6.out.below (Below.refl _ _).drew)
  have d0 := K6d.out.cell 0 _ rfl
  have d1 := K6d.out.cell 1 _ rfl
  have d2 := K6d.out.cell 2 _ rfl
  have d3 := K6d.out.cell 3 _ rfl
  have d4 := K6d.out.cell 4 _ rfl
  have d5 := K6d.out.cell 5 _ rfl
  have d6 := K6d.out.cell 6 _ rfl
  have d7 := K6d.out.cell 7 _ rfl
  have d8 := K6d.out.cell 8 _ rfl
  have e0 := J6d.out.cell 0 _ rfl
  have e1 := J6d.out.cell 1 _ rfl
  have e2 := J6d.out.cell 2 _ rfl
  have e3 := J6d.out.cell 3 _ rfl
  have e4 := J6d.out.cell 4 _ rfl
  have e5 := J6d.out.cell 5 _ rfl
  have e6 := J6d.out.cell 6 _ rfl
  have e7 := J6d.out.cell 7 _ rfl
  have e8 := J6d.out.cell 8 _ rfl
  go_wp2_with fail
  refine wp_region_held_drew (S := fun w' => w'.cell? ⟨w4.heap.size, 0, none⟩ = some (.slice xa zs.length xc) ∧ w'.cell? ⟨w4.heap.size, 1, none⟩ = some (.int .i64 F) ∧ w'.cell? ⟨w4.heap.size, 2, none⟩ = some (.int .i64 C) ∧ w'.cell? ⟨w4.heap.size, 3, none⟩ = some (.int .i64 Wd) ∧ w'.cell? ⟨w4.heap.size, 4, none⟩ = some (.int .i64 D) ∧ w'.cell? ⟨w4.heap.size, 5, none⟩ = some (.int .i64 Wy) ∧ w'.cell? ⟨w4.heap.size, 6, none⟩ = some (.int .i64 R) ∧ w'.cell? ⟨w4.heap.size, 7, none⟩ = some (.int .i64 A) ∧ w'.cell? ⟨w4.heap.size, 8, none⟩ = some (.int .i64 Wi) ∧ w'.cell? ⟨w.heap.size, 0, none⟩ = some (.slice av zs.length cv) ∧ w'.cell? ⟨w.heap.size, 1, none⟩ = some (.int .i64 F) ∧ w'.cell? ⟨w.heap.size, 2, none⟩ = some (.int .i64 C) ∧ w'.cell? ⟨w.heap.size, 3, none⟩ = some (.int .i64 Wd) ∧ w'.cell? ⟨w.heap.size, 4, none⟩ = some (.int .i64 D) ∧ w'.cell? ⟨w.heap.size, 5, none⟩ = some (.int .i64 Wy) ∧ w'.cell? ⟨w.heap.size, 6, none⟩ = some (.int .i64 R) ∧ w'.cell? ⟨w.heap.size, 7, none⟩ = some (.int .i64 A) ∧ w'.cell? ⟨w.heap.size, 8, none⟩ = some (.int .i64 Wi)) (by kernel_rfl) ⟨d0, d1, d2, d3, d4, d5, d6, d7, d8, e0, e1, e2, e3, e4, e5, e6, e7, e8⟩ (fun hHeld => ?_)
  try dsimp only
  refine onG 0 (some 22) (v := ?v34_) (by kernel_rfl) (by kernel_rfl) (by kernel_rfl) (fun _ _ _ h => h) (by rfl) hHeld ?hy34_ ?rest34_
  case hy34_ =>
    intro o ho; simp only [List.getElem?_toArray, List.getElem?_cons_zero, Option.some.injEq] at ho; subst ho; intro w hSw; (try dsimp only at hSw)
    go_simp
    try with_reducible rfl
  case rest34_ =>
  try simp only [Act.put, List.setIfInBounds_toArray, List.set_cons_zero, List.set_cons_succ]
  refine onG 1 (some 23) (v := ?v35_) (by kernel_rfl) (by kernel_rfl) (by kernel_rfl) (fun _ _ _ h => h) (by rfl) hHeld ?hy35_ ?rest35_
  case hy35_ =>
    intro o ho; simp only [List.getElem?_toArray, List.getElem?_cons_succ, List.getElem?_cons_zero, Option.some.injEq] at ho; subst ho; intro w hSw; (try dsimp only at hSw)
    go_simp
    try with_reducible rfl
  case rest35_ =>
  try simp only [Act.put, List.setIfInBounds_toArray, List.set_cons_zero, List.set_cons_succ]
  refine callG 2 (by kernel_rfl) ?_
  intro o ho; simp only [List.getElem?_toArray, List.getElem?_cons_succ, List.getElem?_cons_zero, Option.some.injEq] at ho; subst ho; intro K hK
  go_simp
  go_at_call 26
  (with_reducible refine (HTJ.out _ (LVd.out)).mono ?_)
  rintro e w7 ⟨ya, yc, rfl, hr, hb⟩
  (have BX := hidH (bThen B6d.out hb))
  (have KX := hidH (K6d.out.below hb))
  (have KY := hidH (J6d.out.below hb))
  (have RX := hidH (R6d.out.below hb))
  (have RY := hidH hr)
  (have f0 := KX.out.cell 0 _ rfl)
  (have f1 := KX.out.cell 1 _ rfl)
  (have f2 := KX.out.cell 2 _ rfl)
  (have f3 := KX.out.cell 3 _ rfl)
  (have f4 := KX.out.cell 4 _ rfl)
  (have f5 := KX.out.cell 5 _ rfl)
  (have f6 := KX.out.cell 6 _ rfl)
  (have f7 := KX.out.cell 7 _ rfl)
  (have f8 := KX.out.cell 8 _ rfl)
  (have g0 := KY.out.cell 0 _ rfl)
  (have g1 := KY.out.cell 1 _ rfl)
  (have g2 := KY.out.cell 2 _ rfl)
  (have g3 := KY.out.cell 3 _ rfl)
  (have g4 := KY.out.cell 4 _ rfl)
  (have g5 := KY.out.cell 5 _ rfl)
  (have g6 := KY.out.cell 6 _ rfl)
  (have g7 := KY.out.cell 7 _ rfl)
  (have g8 := KY.out.cell 8 _ rfl)
  (clear hb hr hHeld)
  go_wp2_with fail
  refine hK.out _ _ ?_ (fun hHeld => ?_)
  · exact ⟨f0, f1, f2, f3, f4, f5, f6, f7, f8, g0, g1, g2, g3, g4, g5, g6, g7, g8⟩
  clear hK K
  try simp only [Act.put, List.setIfInBounds_toArray, List.set_cons_zero, List.set_cons_succ]
  refine callG 3 (by kernel_rfl) ?_
  intro o ho; simp only [List.getElem?_toArray, List.getElem?_cons_succ, List.getElem?_cons_zero, Option.some.injEq] at ho; subst ho; intro K hK
  go_simp
  go_at_call 28
  (with_reducible refine (HEQ.out _ _ _ _ _ _ _ RX.out.lies RY.out.lies).mono ?_)
  rintro e w8 ⟨rfl, hb⟩
  (have BY := hidH (bThen BX.out hb))
  (have KX2 := hidH (KX.out.below hb))
  (have KY2 := hidH (KY.out.below hb))
  (have h0 := KX2.out.cell 0 _ rfl)
  (have h1 := KX2.out.cell 1 _ rfl)
  (have h2 := KX2.out.cell 2 _ rfl)
  (have h3 := KX2.out.cell 3 _ rfl)
  (have h4 := KX2.out.cell 4 _ rfl)
  (have h5 := KX2.out.cell 5 _ rfl)
  (have h6 := KX2.out.cell 6 _ rfl)
  (have h7 := KX2.out.cell 7 _ rfl)
  (have h8 := KX2.out.cell 8 _ rfl)
  (have k0 := KY2.out.cell 0 _ rfl)
  (have k1 := KY2.out.cell 1 _ rfl)
  (have k2 := KY2.out.cell 2 _ rfl)
  (have k3 := KY2.out.cell 3 _ rfl)
  (have k4 := KY2.out.cell 4 _ rfl)
  (have k5 := KY2.out.cell 5 _ rfl)
  (have k6 := KY2.out.cell 6 _ rfl)
  (have k7 := KY2.out.cell 7 _ rfl)
  (have k8 := KY2.out.cell 8 _ rfl)
  (clear hb hHeld)
  go_wp2_with fail
  refine hK.out _ _ ?_ (fun hHeld => ?_)
  · exact ⟨h0, h1, h2, h3, h4, h5, h6, h7, h8, k0, k1, k2, k3, k4, k5, k6, k7, k8⟩
  clear hK K
  try simp only [Act.put, List.setIfInBounds_toArray, List.set_cons_zero, List.set_cons_succ]
  refine onG 4 (some 26) (v := ?v36_) (by kernel_rfl) (by kernel_rfl) (by kernel_rfl) (fun _ _ _ h => h) (by rfl) hHeld ?hy36_ ?rest36_
  case hy36_ =>
    intro o ho; simp only [List.getElem?_toArray, List.getElem?_cons_succ, List.getElem?_cons_zero, Option.some.injEq] at ho; subst ho; intro w hSw; (try dsimp only at hSw)
    go_simp
    try with_reducible rfl
  case rest36_ =>
  try simp only [Act.put, List.setIfInBounds_toArray, List.set_cons_zero, List.set_cons_succ]
  refine wpAnyH_done (by kernel_rfl) ?_ _
  go_wp2_with fail
  go_ret
  exact ⟨rfl, BY.out⟩
end Go.Proofs.Ythjglhjogadeoaa
