/-
  The law of JobTime. No conditions but that the bytes that came in can be read.
-/
import Derived.Test.YtcinhmfjnjecdaaJobP
namespace Go.Proofs.Ytcinhmfjnjecdaa
set_option maxRecDepth 4000
open Go.RowKit
set_option maxHeartbeats 3200000 in
theorem lawJobTime (a : Option Addr) (len cap : Nat) (w : World) (hc : Came w a len cap) : Calls Try.prog 7 #[.slice a len cap] w (Gives (.bool true) w) := by
  have hc1 := hc.lenLe
  have hc2 := hc.capLe
  unfold maxLen at hc2
  by_cases hbig : 1048576 < len
  · go_enter Try.func7, Try.ntmps7
    go_wp2
    go_ret
    exact ⟨rfl, Below.refl _ _⟩
  have hsm : len ≤ 1048576 := by omega
  have HD := hidH (drawJobTime a len cap w hc hsm)
  clear hbig hc
  go_enter Try.func7, Try.ntmps7
  go_wp2_with fail
  refine HD.out.mono ?_; rintro e w1 ⟨v, zs, F, C, Wd, D, Wy, R, A, Wi, rfl, hrow, h8, hB⟩
  clear HD
  have hL := hrow.lies.top
  obtain ⟨va, vc, rfl⟩ := hL.someJ
  have SZ := hidH (job_size (.slice va zs.length vc) F C Wd D Wy R A Wi)
  have B2 := hidH (bMore hB (.cells (#[.slice va zs.length vc, .int .i64 F, .int .i64 C, .int .i64 Wd, .int .i64 D, .int .i64 Wy, .int .i64 R, .int .i64 A, .int .i64 Wi] : Array Value) 38))
  have L2 := hidH (hL.below ((Below.refl _ w1).alloc (Nat.le_refl _) (.cells (#[.slice va zs.length vc, .int .i64 F, .int .i64 C, .int .i64 Wd, .int .i64 D, .int .i64 Wy, .int .i64 R, .int .i64 A, .int .i64 Wi] : Array Value) 38)))
  have J2 := hidH (show (w1.alloc (.cells (#[.slice va zs.length vc, .int .i64 F, .int .i64 C, .int .i64 Wd, .int .i64 D, .int .i64 Wy, .int .i64 R, .int .i64 A, .int .i64 Wi] : Array Value) 38)).heap[w1.heap.size]? = some (.cells (#[.slice va zs.length vc, .int .i64 F, .int .i64 C, .int .i64 Wd, .int .i64 D, .int .i64 Wy, .int .i64 R, .int .i64 A, .int .i64 Wi] : Array Value) 38 (0, 0)) from heap_alloc_new w1 _)
  clear hrow hB hL
  have qt := fun W lo hi (h : Lies W lo hi (.slice va zs.length vc) zs) => jobTime_any (.slice va zs.length vc) zs F C Wd D Wy R A Wi W lo hi h
  have qs := fun W lo hi (h : Lies W lo hi (.slice va zs.length vc) zs) => sJobTime_any (.slice va zs.length vc) zs F C Wd D Wy R A Wi W lo hi h
  have qv := fun W lo hi (h : Lies W lo hi (.slice va zs.length vc) zs) => jobValid_any (.slice va zs.length vc) zs F C Wd D Wy R A Wi W lo hi h
  unfold jobV at *
  unfold jobC at *
  cases hj : jobOk zs F C Wd D Wy R A Wi
  · skip
    simp only [jobT_no hj] at qt qs
    simp only [hj] at qv
    clear hj
    have HT := hidH qt
    have HS := hidH qs
    have HV := hidH qv
    clear qt qs qv
    go_wp2_with (refine wpList_load_row rfl 38 _ rfl w1.heap.size rfl 38 _ (0, 0) _ J2.out Try.underlying38 rfl SZ.out ?_)
    refine (HT.out _ _ _ L2.out).mono ?_; rintro e w3 ⟨rfl, hb⟩
    have B3 := hidH (bThen B2.out hb)
    have J3 := hidH (heap_keep J2.out hb)
    have L3 := hidH (L2.out.top.below hb)
    clear hb
    go_wp2_with (refine wpList_load_row rfl 38 _ rfl w1.heap.size rfl 38 _ (0, 0) _ J3.out Try.underlying38 rfl SZ.out ?_)
    refine (HS.out _ _ _ L3.out).mono ?_; rintro e w4 ⟨rfl, hb⟩
    have B4 := hidH (bThen B3.out hb)
    have J4 := hidH (heap_keep J3.out hb)
    have L4 := hidH (L3.out.top.below hb)
    clear hb
    have c0 := job_cell J4.out 0 _ rfl
    have c1 := job_cell J4.out 1 _ rfl
    have c2 := job_cell J4.out 2 _ rfl
    have c3 := job_cell J4.out 3 _ rfl
    have c4 := job_cell J4.out 4 _ rfl
    have c5 := job_cell J4.out 5 _ rfl
    have c6 := job_cell J4.out 6 _ rfl
    have c7 := job_cell J4.out 7 _ rfl
    have c8 := job_cell J4.out 8 _ rfl
    go_wp2_with fail
    refine (HV.out _ _ _ L4.out).mono ?_; rintro e w5 ⟨rfl, hb⟩
    have B5 := hidH (bThen B4.out hb)
    have J5 := hidH (heap_keep J4.out hb)
    have L5 := hidH (L4.out.top.below hb)
    clear hb c0 c1 c2 c3 c4 c5 c6 c7 c8
    go_wp2_with (refine wpList_load_row rfl 38 _ rfl w1.heap.size rfl 38 _ (0, 0) _ J5.out Try.underlying38 rfl SZ.out ?_)
    refine (HS.out _ _ _ L5.out).mono ?_; rintro e w6 ⟨rfl, hb⟩
    have B6 := hidH (bThen B5.out hb)
    have J6 := hidH (heap_keep J5.out hb)
    have L6 := hidH (L5.out.top.below hb)
    clear hb
    have c0 := job_cell J6.out 0 _ rfl
    have c1 := job_cell J6.out 1 _ rfl
    have c2 := job_cell J6.out 2 _ rfl
    have c3 := job_cell J6.out 3 _ rfl
    have c4 := job_cell J6.out 4 _ rfl
    have c5 := job_cell J6.out 5 _ rfl
    have c6 := job_cell J6.out 6 _ rfl
    have c7 := job_cell J6.out 7 _ rfl
    have c8 := job_cell J6.out 8 _ rfl
    go_wp2_with fail
    refine (HV.out _ _ _ L6.out).mono ?_; rintro e w7 ⟨rfl, hb⟩
    have B7 := hidH (bThen B6.out hb)
    have J7 := hidH (heap_keep J6.out hb)
    have L7 := hidH (L6.out.top.below hb)
    clear hb c0 c1 c2 c3 c4 c5 c6 c7 c8
    go_wp2_with fail
    go_ret
    exact ⟨rfl, B7.out⟩
  · skip
    obtain ⟨⟨hC0, hC1⟩, ⟨hM0, hM1⟩, ht, ht1⟩ := jobT_law hj
    have q1 := fun W lo hi (h : Lies W lo hi (.slice va zs.length vc) zs) => jobTime_any (.slice va zs.length vc) zs F 1 Wd D Wy R A Wi W lo hi h
    unfold jobV at q1
    unfold jobC at q1
    have HPL := hidH (IntWalk.i64_in ((zs.length : Int) * Wd) (by omega))
    simp only [ht1] at q1
    simp only [ht] at qt qs
    generalize hM : (zs.length : Int) * Wd = M at *
    have HMM := hidH hM
    simp only [hj] at qv
    clear hj ht ht1
    have HT := hidH qt
    have HS := hidH qs
    have HV := hidH qv
    have H1 := hidH q1
    have SZ1 := hidH (job_size (.slice va zs.length vc) F 1 Wd D Wy R A Wi)
    have hw0 : IntKind.i64.wrap M = M := IntWalk.i64_in _ (by omega)
    have hw1 : IntKind.i64.wrap (M + 1) = M + 1 := IntWalk.i64_in _ (by omega)
    have hw2 : IntKind.i64.wrap (M + C) = M + C := IntWalk.i64_in _ (by omega)
    have HW2 := hidH hw2
    clear qt qs qv q1 hM
    go_wp2_with (refine wpList_load_row rfl 38 _ rfl w1.heap.size rfl 38 _ (0, 0) _ J2.out Try.underlying38 rfl SZ.out ?_)
    refine (HT.out _ _ _ L2.out).mono ?_; rintro e w3 ⟨rfl, hb⟩
    have B3 := hidH (bThen B2.out hb)
    have J3 := hidH (heap_keep J2.out hb)
    have L3 := hidH (L2.out.top.below hb)
    clear hb
    go_wp2_with (refine wpList_load_row rfl 38 _ rfl w1.heap.size rfl 38 _ (0, 0) _ J3.out Try.underlying38 rfl SZ.out ?_)
    refine (HS.out _ _ _ L3.out).mono ?_; rintro e w4 ⟨rfl, hb⟩
    have B4 := hidH (bThen B3.out hb)
    have J4 := hidH (heap_keep J3.out hb)
    have L4 := hidH (L3.out.top.below hb)
    clear hb
    have c0 := job_cell J4.out 0 _ rfl
    have c1 := job_cell J4.out 1 _ rfl
    have c2 := job_cell J4.out 2 _ rfl
    have c3 := job_cell J4.out 3 _ rfl
    have c4 := job_cell J4.out 4 _ rfl
    have c5 := job_cell J4.out 5 _ rfl
    have c6 := job_cell J4.out 6 _ rfl
    have c7 := job_cell J4.out 7 _ rfl
    have c8 := job_cell J4.out 8 _ rfl
    go_wp2_with fail
    refine (HV.out _ _ _ L4.out).mono ?_; rintro e w5 ⟨rfl, hb⟩
    have B5 := hidH (bThen B4.out hb)
    have J5 := hidH (heap_keep J4.out hb)
    have L5 := hidH (L4.out.top.below hb)
    clear hb c0 c1 c2 c3 c4 c5 c6 c7 c8
    go_wp2_with (refine wpList_load_row rfl 38 _ rfl w1.heap.size rfl 38 _ (0, 0) _ J5.out Try.underlying38 rfl SZ.out ?_)
    have B6 := hidH (bMore B5.out (.cells (#[.slice va zs.length vc, .int .i64 F, .int .i64 C, .int .i64 Wd, .int .i64 D, .int .i64 Wy, .int .i64 R, .int .i64 A, .int .i64 Wi] : Array Value) 38))
    have K6 := hidH (show JobAt (w5.alloc (.cells (#[.slice va zs.length vc, .int .i64 F, .int .i64 C, .int .i64 Wd, .int .i64 D, .int .i64 Wy, .int .i64 R, .int .i64 A, .int .i64 Wi] : Array Value) 38)) w5.heap.size 38 (#[.slice va zs.length vc, .int .i64 F, .int .i64 C, .int .i64 Wd, .int .i64 D, .int .i64 Wy, .int .i64 R, .int .i64 A, .int .i64 Wi] : Array Value) from heap_alloc_new w5 _)
    have J6 := hidH (show JobAt (w5.alloc (.cells (#[.slice va zs.length vc, .int .i64 F, .int .i64 C, .int .i64 Wd, .int .i64 D, .int .i64 Wy, .int .i64 R, .int .i64 A, .int .i64 Wi] : Array Value) 38)) w1.heap.size 38 (#[.slice va zs.length vc, .int .i64 F, .int .i64 C, .int .i64 Wd, .int .i64 D, .int .i64 Wy, .int .i64 R, .int .i64 A, .int .i64 Wi] : Array Value) from heap_more J5.out _)
    have hlt : w1.heap.size < w5.heap.size := (Array.getElem?_eq_some_iff.1 J5.out).1
    have B7 := hidH (bMore B5.out (.cells (#[.slice va zs.length vc, .int .i64 F, .int .i64 1, .int .i64 Wd, .int .i64 D, .int .i64 Wy, .int .i64 R, .int .i64 A, .int .i64 Wi] : Array Value) 38))
    have K7 := hidH (show JobAt (w5.alloc (.cells (#[.slice va zs.length vc, .int .i64 F, .int .i64 1, .int .i64 Wd, .int .i64 D, .int .i64 Wy, .int .i64 R, .int .i64 A, .int .i64 Wi] : Array Value) 38)) w5.heap.size 38 (#[.slice va zs.length vc, .int .i64 F, .int .i64 1, .int .i64 Wd, .int .i64 D, .int .i64 Wy, .int .i64 R, .int .i64 A, .int .i64 Wi] : Array Value) from heap_alloc_new w5 _)
    have J7 := hidH (show JobAt (w5.alloc (.cells (#[.slice va zs.length vc, .int .i64 F, .int .i64 1, .int .i64 Wd, .int .i64 D, .int .i64 Wy, .int .i64 R, .int .i64 A, .int .i64 Wi] : Array Value) 38)) w1.heap.size 38 (#[.slice va zs.length vc, .int .i64 F, .int .i64 C, .int .i64 Wd, .int .i64 D, .int .i64 Wy, .int .i64 R, .int .i64 A, .int .i64 Wi] : Array Value) from heap_more J5.out _)
    have L7 := hidH (L5.out.below ((Below.refl w5.heap.size w5).alloc (Nat.le_refl _) (.cells (#[.slice va zs.length vc, .int .i64 F, .int .i64 1, .int .i64 Wd, .int .i64 D, .int .i64 Wy, .int .i64 R, .int .i64 A, .int .i64 Wi] : Array Value) 38)))
    have c2 := job_cell K6.out 2 _ rfl
    have f2 := K6.out.free 2
    clear hlt
    go_wp2_with fail
    generalize w5.alloc (.cells (#[.slice va zs.length vc, .int .i64 F, .int .i64 1, .int .i64 Wd, .int .i64 D, .int .i64 Wy, .int .i64 R, .int .i64 A, .int .i64 Wi] : Array Value) 38) = w7 at *
    clear J6 K6 B6
    have K7d : w7.drew.heap[w5.heap.size]? = _ := K7.out
    have J7d : w7.drew.heap[w1.heap.size]? = _ := J7.out
    have dk0 := job_cell K7d 0 _ rfl
    have dk1 := job_cell K7d 1 _ rfl
    have dk2 := job_cell K7d 2 _ rfl
    have dk3 := job_cell K7d 3 _ rfl
    have dk4 := job_cell K7d 4 _ rfl
    have dk5 := job_cell K7d 5 _ rfl
    have dk6 := job_cell K7d 6 _ rfl
    have dk7 := job_cell K7d 7 _ rfl
    have dk8 := job_cell K7d 8 _ rfl
    have dj0 := job_cell J7d 0 _ rfl
    have dj2 := job_cell J7d 2 _ rfl
    have dj3 := job_cell J7d 3 _ rfl
    refine wp_region_held_drew (S := fun w' => w'.cell? ⟨w5.heap.size, 0, none⟩ = some (.slice va zs.length vc) ∧ w'.cell? ⟨w5.heap.size, 1, none⟩ = some (.int .i64 F) ∧ w'.cell? ⟨w5.heap.size, 2, none⟩ = some (.int .i64 1) ∧ w'.cell? ⟨w5.heap.size, 3, none⟩ = some (.int .i64 Wd) ∧ w'.cell? ⟨w5.heap.size, 4, none⟩ = some (.int .i64 D) ∧ w'.cell? ⟨w5.heap.size, 5, none⟩ = some (.int .i64 Wy) ∧ w'.cell? ⟨w5.heap.size, 6, none⟩ = some (.int .i64 R) ∧ w'.cell? ⟨w5.heap.size, 7, none⟩ = some (.int .i64 A) ∧ w'.cell? ⟨w5.heap.size, 8, none⟩ = some (.int .i64 Wi) ∧ w'.cell? ⟨w1.heap.size, 0, none⟩ = some (.slice va zs.length vc) ∧ w'.cell? ⟨w1.heap.size, 2, none⟩ = some (.int .i64 C) ∧ w'.cell? ⟨w1.heap.size, 3, none⟩ = some (.int .i64 Wd)) (by kernel_rfl) ⟨dk0, dk1, dk2, dk3, dk4, dk5, dk6, dk7, dk8, dj0, dj2, dj3⟩ (fun hHeld => ?_)
    try dsimp only
    refine onG 0 (some 41) (v := ?v31_) (by kernel_rfl) (by kernel_rfl) (by kernel_rfl) (fun _ _ _ h => h) (by rfl) hHeld ?hy31_ ?rest31_
    case hy31_ =>
      intro o ho; simp only [List.getElem?_toArray, List.getElem?_cons_zero, Option.some.injEq] at ho; subst ho; intro w hSw; (try dsimp only at hSw)
      go_simp
      try with_reducible rfl
    case rest31_ =>
    try simp only [Act.put, List.setIfInBounds_toArray, List.set_cons_zero, List.set_cons_succ]
    refine onG 2 (some 43) (v := ?v32_) (by kernel_rfl) (by kernel_rfl) (by kernel_rfl) (fun _ _ _ h => h) (by rfl) hHeld ?hy32_ ?rest32_
    case hy32_ =>
      intro o ho; simp only [List.getElem?_toArray, List.getElem?_cons_succ, List.getElem?_cons_zero, Option.some.injEq] at ho; subst ho; intro w hSw; (try dsimp only at hSw)
      go_simp
      try with_reducible rfl
    case rest32_ =>
    try simp only [Act.put, List.setIfInBounds_toArray, List.set_cons_zero, List.set_cons_succ]
    refine onG 3 (some 44) (v := ?v33_) (by kernel_rfl) (by kernel_rfl) (by kernel_rfl) (fun _ _ _ h => h) (by rfl) hHeld ?hy33_ ?rest33_
    case hy33_ =>
      intro o ho; simp only [List.getElem?_toArray, List.getElem?_cons_succ, List.getElem?_cons_zero, Option.some.injEq] at ho; subst ho; intro w hSw; (try dsimp only at hSw)
      go_simp
      try with_reducible rfl
    case rest33_ =>
    try simp only [Act.put, List.setIfInBounds_toArray, List.set_cons_zero, List.set_cons_succ]
    refine onG 4 (some 45) (v := ?v34_) (by kernel_rfl) (by kernel_rfl) (by kernel_rfl) (fun _ _ _ h => h) (by rfl) hHeld ?hy34_ ?rest34_
    case hy34_ =>
      intro o ho; simp only [List.getElem?_toArray, List.getElem?_cons_succ, List.getElem?_cons_zero, Option.some.injEq] at ho; subst ho; intro w hSw; (try dsimp only at hSw)
      go_simp
      try with_reducible rfl
    case rest34_ =>
    try simp only [Act.put, List.setIfInBounds_toArray, List.set_cons_zero, List.set_cons_succ]
    refine onG 5 (some 46) (v := ?v35_) (by kernel_rfl) (by kernel_rfl) (by kernel_rfl) (fun _ _ _ h => h) (by rfl) hHeld ?hy35_ ?rest35_
    case hy35_ =>
      intro o ho; simp only [List.getElem?_toArray, List.getElem?_cons_succ, List.getElem?_cons_zero, Option.some.injEq] at ho; subst ho; intro w hSw; (try dsimp only at hSw)
      go_simp
      try with_reducible rfl
    case rest35_ =>
    try simp only [Act.put, List.setIfInBounds_toArray, List.set_cons_zero, List.set_cons_succ]
    refine onG 6 (some 47) (v := ?v36_) (by kernel_rfl) (by kernel_rfl) (by kernel_rfl) (fun _ _ _ h => h) (by rfl) hHeld ?hy36_ ?rest36_
    case hy36_ =>
      intro o ho; simp only [List.getElem?_toArray, List.getElem?_cons_succ, List.getElem?_cons_zero, Option.some.injEq] at ho; subst ho; intro w hSw; (try dsimp only at hSw)
      go_simp
      try with_reducible rfl
    case rest36_ =>
    try simp only [Act.put, List.setIfInBounds_toArray, List.set_cons_zero, List.set_cons_succ]
    refine callG 1 (by kernel_rfl) ?_
    intro o ho; simp only [List.getElem?_toArray, List.getElem?_cons_succ, List.getElem?_cons_zero, Option.some.injEq] at ho; subst ho; intro K hK
    go_simp
    go_at_call 23
    (with_reducible refine (H1.out _ _ _ (L7.out.below (Below.refl _ _).drew)).mono ?_)
    rintro e w8 ⟨rfl, hb⟩
    (have B8 := hidH (B7.out.drew.trans (hb.mono B7.out.size)))
    (have K8 := hidH (heap_keep (show w7.drew.heap[w5.heap.size]? = _ from K7.out) hb))
    (have J8 := hidH (heap_keep (show w7.drew.heap[w1.heap.size]? = _ from J7.out) hb))
    (have gk0 := job_cell K8.out 0 _ rfl)
    (have gk1 := job_cell K8.out 1 _ rfl)
    (have gk2 := job_cell K8.out 2 _ rfl)
    (have gk3 := job_cell K8.out 3 _ rfl)
    (have gk4 := job_cell K8.out 4 _ rfl)
    (have gk5 := job_cell K8.out 5 _ rfl)
    (have gk6 := job_cell K8.out 6 _ rfl)
    (have gk7 := job_cell K8.out 7 _ rfl)
    (have gk8 := job_cell K8.out 8 _ rfl)
    (have gj0 := job_cell J8.out 0 _ rfl)
    (have gj2 := job_cell J8.out 2 _ rfl)
    (have gj3 := job_cell J8.out 3 _ rfl)
    (clear hb hHeld)
    go_wp2_with fail
    refine hK.out _ _ ?_ (fun hHeld => ?_)
    · exact ⟨gk0, gk1, gk2, gk3, gk4, gk5, gk6, gk7, gk8, gj0, gj2, gj3⟩
    clear hK K
    try simp only [Act.put, List.setIfInBounds_toArray, List.set_cons_zero, List.set_cons_succ]
    refine onG 7 (some 48) (v := .bool true) (by kernel_rfl) (by kernel_rfl) (by kernel_rfl) (fun _ _ _ h => h) (by rfl) hHeld ?hy37_ ?rest37_
    case hy37_ =>
      intro o ho; simp only [List.getElem?_toArray, List.getElem?_cons_succ, List.getElem?_cons_zero, Option.some.injEq] at ho; subst ho; intro w hSw; (try dsimp only at hSw)
      go_simp
      all_goals (first | done | (simp [HMM.out, HPL.out]; done) | (simp [HMM.out, HPL.out]; exact HW2.out.symm))
    case rest37_ =>
    try simp only [Act.put, List.setIfInBounds_toArray, List.set_cons_zero, List.set_cons_succ]
    refine onG 8 (some 49) (v := ?v38_) (by kernel_rfl) (by kernel_rfl) (by kernel_rfl) (fun _ _ _ h => h) (by rfl) hHeld ?hy38_ ?rest38_
    case hy38_ =>
      intro o ho; simp only [List.getElem?_toArray, List.getElem?_cons_succ, List.getElem?_cons_zero, Option.some.injEq] at ho; subst ho; intro w hSw; (try dsimp only at hSw)
      go_simp
      try with_reducible rfl
    case rest38_ =>
    try simp only [Act.put, List.setIfInBounds_toArray, List.set_cons_zero, List.set_cons_succ]
    refine onG 9 (some 50) (v := ?v39_) (by kernel_rfl) (by kernel_rfl) (by kernel_rfl) (fun _ _ _ h => h) (by rfl) hHeld ?hy39_ ?rest39_
    case hy39_ =>
      intro o ho; simp only [List.getElem?_toArray, List.getElem?_cons_succ, List.getElem?_cons_zero, Option.some.injEq] at ho; subst ho; intro w hSw; (try dsimp only at hSw)
      go_simp
      try with_reducible rfl
    case rest39_ =>
    try simp only [Act.put, List.setIfInBounds_toArray, List.set_cons_zero, List.set_cons_succ]
    refine onG 10 (some 51) (v := ?v40_) (by kernel_rfl) (by kernel_rfl) (by kernel_rfl) (fun _ _ _ h => h) (by rfl) hHeld ?hy40_ ?rest40_
    case hy40_ =>
      intro o ho; simp only [List.getElem?_toArray, List.getElem?_cons_succ, List.getElem?_cons_zero, Option.some.injEq] at ho; subst ho; intro w hSw; (try dsimp only at hSw)
      go_simp
      try with_reducible rfl
    case rest40_ =>
    try simp only [Act.put, List.setIfInBounds_toArray, List.set_cons_zero, List.set_cons_succ]
    refine onG 11 (some 52) (v := ?v41_) (by kernel_rfl) (by kernel_rfl) (by kernel_rfl) (fun _ _ _ h => h) (by rfl) hHeld ?hy41_ ?rest41_
    case hy41_ =>
      intro o ho; simp only [List.getElem?_toArray, List.getElem?_cons_succ, List.getElem?_cons_zero, Option.some.injEq] at ho; subst ho; intro w hSw; (try dsimp only at hSw)
      go_simp
      try with_reducible rfl
    case rest41_ =>
    try simp only [Act.put, List.setIfInBounds_toArray, List.set_cons_zero, List.set_cons_succ]
    refine onG 12 (some 53) (v := ?v42_) (by kernel_rfl) (by kernel_rfl) (by kernel_rfl) (fun _ _ _ h => h) (by rfl) hHeld ?hy42_ ?rest42_
    case hy42_ =>
      intro o ho; simp only [List.getElem?_toArray, List.getElem?_cons_succ, List.getElem?_cons_zero, Option.some.injEq] at ho; subst ho; intro w hSw; (try dsimp only at hSw)
      go_simp
      try with_reducible rfl
    case rest42_ =>
    try simp only [Act.put, List.setIfInBounds_toArray, List.set_cons_zero, List.set_cons_succ]
    refine onG 13 (some 54) (v := ?v43_) (by kernel_rfl) (by kernel_rfl) (by kernel_rfl) (fun _ _ _ h => h) (by rfl) hHeld ?hy43_ ?rest43_
    case hy43_ =>
      intro o ho; simp only [List.getElem?_toArray, List.getElem?_cons_succ, List.getElem?_cons_zero, Option.some.injEq] at ho; subst ho; intro w hSw; (try dsimp only at hSw)
      go_simp
      try with_reducible rfl
    case rest43_ =>
    try simp only [Act.put, List.setIfInBounds_toArray, List.set_cons_zero, List.set_cons_succ]
    refine onG 14 (some 55) (v := ?v44_) (by kernel_rfl) (by kernel_rfl) (by kernel_rfl) (fun _ _ _ h => h) (by rfl) hHeld ?hy44_ ?rest44_
    case hy44_ =>
      intro o ho; simp only [List.getElem?_toArray, List.getElem?_cons_succ, List.getElem?_cons_zero, Option.some.injEq] at ho; subst ho; intro w hSw; (try dsimp only at hSw)
      go_simp
      try with_reducible rfl
    case rest44_ =>
    try simp only [Act.put, List.setIfInBounds_toArray, List.set_cons_zero, List.set_cons_succ]
    refine onG 15 (some 56) (v := ?v45_) (by kernel_rfl) (by kernel_rfl) (by kernel_rfl) (fun _ _ _ h => h) (by rfl) hHeld ?hy45_ ?rest45_
    case hy45_ =>
      intro o ho; simp only [List.getElem?_toArray, List.getElem?_cons_succ, List.getElem?_cons_zero, Option.some.injEq] at ho; subst ho; intro w hSw; (try dsimp only at hSw)
      go_simp
      try with_reducible rfl
    case rest45_ =>
    try simp only [Act.put, List.setIfInBounds_toArray, List.set_cons_zero, List.set_cons_succ]
    refine onG 16 (some 57) (v := ?v46_) (by kernel_rfl) (by kernel_rfl) (by kernel_rfl) (fun _ _ _ h => h) (by rfl) hHeld ?hy46_ ?rest46_
    case hy46_ =>
      intro o ho; simp only [List.getElem?_toArray, List.getElem?_cons_succ, List.getElem?_cons_zero, Option.some.injEq] at ho; subst ho; intro w hSw; (try dsimp only at hSw)
      go_simp
      try with_reducible rfl
    case rest46_ =>
    try simp only [Act.put, List.setIfInBounds_toArray, List.set_cons_zero, List.set_cons_succ]
    refine onG 17 (some 58) (v := ?v47_) (by kernel_rfl) (by kernel_rfl) (by kernel_rfl) (fun _ _ _ h => h) (by rfl) hHeld ?hy47_ ?rest47_
    case hy47_ =>
      intro o ho; simp only [List.getElem?_toArray, List.getElem?_cons_succ, List.getElem?_cons_zero, Option.some.injEq] at ho; subst ho; intro w hSw; (try dsimp only at hSw)
      go_simp
      try with_reducible rfl
    case rest47_ =>
    try simp only [Act.put, List.setIfInBounds_toArray, List.set_cons_zero, List.set_cons_succ]
    refine onG 18 (some 59) (v := ?v48_) (by kernel_rfl) (by kernel_rfl) (by kernel_rfl) (fun _ _ _ h => h) (by rfl) hHeld ?hy48_ ?rest48_
    case hy48_ =>
      intro o ho; simp only [List.getElem?_toArray, List.getElem?_cons_succ, List.getElem?_cons_zero, Option.some.injEq] at ho; subst ho; intro w hSw; (try dsimp only at hSw)
      go_simp
      try with_reducible rfl
    case rest48_ =>
    try simp only [Act.put, List.setIfInBounds_toArray, List.set_cons_zero, List.set_cons_succ]
    refine onG 19 (some 60) (v := .bool true) (by kernel_rfl) (by kernel_rfl) (by kernel_rfl) (fun _ _ _ h => h) (by rfl) hHeld ?hy49_ ?rest49_
    case hy49_ =>
      intro o ho; simp only [List.getElem?_toArray, List.getElem?_cons_succ, List.getElem?_cons_zero, Option.some.injEq] at ho; subst ho; intro w hSw; (try dsimp only at hSw)
      go_simp
      all_goals (first | done | (simp [HMM.out, HPL.out]; done) | (simp [HMM.out, HPL.out]; exact HW2.out.symm))
    case rest49_ =>
    try simp only [Act.put, List.setIfInBounds_toArray, List.set_cons_zero, List.set_cons_succ]
    refine onG 20 (some 61) (v := ?v50_) (by kernel_rfl) (by kernel_rfl) (by kernel_rfl) (fun _ _ _ h => h) (by rfl) hHeld ?hy50_ ?rest50_
    case hy50_ =>
      intro o ho; simp only [List.getElem?_toArray, List.getElem?_cons_succ, List.getElem?_cons_zero, Option.some.injEq] at ho; subst ho; intro w hSw; (try dsimp only at hSw)
      go_simp
      try with_reducible rfl
    case rest50_ =>
    try simp only [Act.put, List.setIfInBounds_toArray, List.set_cons_zero, List.set_cons_succ]
    refine onG 21 (some 2) (v := ?v51_) (by kernel_rfl) (by kernel_rfl) (by kernel_rfl) (fun _ _ _ h => h) (by rfl) hHeld ?hy51_ ?rest51_
    case hy51_ =>
      intro o ho; simp only [List.getElem?_toArray, List.getElem?_cons_succ, List.getElem?_cons_zero, Option.some.injEq] at ho; subst ho; intro w hSw; (try dsimp only at hSw)
      go_simp
      try with_reducible rfl
    case rest51_ =>
    try simp only [Act.put, List.setIfInBounds_toArray, List.set_cons_zero, List.set_cons_succ]
    refine wpAnyH_done (by kernel_rfl) ?_ _
    go_wp2_with fail
    go_ret
    exact ⟨rfl, B8.out⟩
end Go.Proofs.Ytcinhmfjnjecdaa
