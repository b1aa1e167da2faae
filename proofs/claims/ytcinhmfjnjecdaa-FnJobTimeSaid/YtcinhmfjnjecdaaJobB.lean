/-
  JobValid: the program, at every argument. No conditions but that slices fit in memory.
-/
import Derived.Test.YtcinhmfjnjecdaaJobA
namespace Go.Proofs.Ytcinhmfjnjecdaa
set_option maxRecDepth 4000
open Go.RowKit
theorem layV_gives (R A W : Int) (w : World) : Calls Try.prog 51 #[.agg #[.int .i64 R, .int .i64 A, .int .i64 W]] w (Gives (.bool (layOk R A W)) w) := layoutValid_gives R A W w
theorem job_cell {w : World} {b : Nat} {cs : Array Value} {t : TypeId} {fr : Nat × Nat} (h : w.heap[b]? = some (.cells cs t fr)) (j : Nat) (v : Value) (hv : cs[j]? = some v) : w.cell? ⟨b, j, none⟩ = some v := by
  simp [World.cell?, h, hv]
theorem heap_more {w : World} {b : Nat} {o : Obj} (h : w.heap[b]? = some o) (x : Obj) : (w.alloc x).heap[b]? = some o := by
  rw [heap_alloc_old w x (Array.getElem?_eq_some_iff.1 h).1]; exact h
theorem heap_keep {w w' : World} {b : Nat} {o : Obj} (h : w.heap[b]? = some o) (hb : Below w.heap.size w w') : w'.heap[b]? = some o := (hb.block b (Array.getElem?_eq_some_iff.1 h).1).trans h
set_option maxHeartbeats 3200000 in
theorem jobValid_any (v : Value) (zs : List Int) (F C Wd D Wy R A Wi : Int) (w : World) (lo hi : Nat) (hv : Lies w lo hi v zs) : Calls Try.prog 25 #[jobV v F C Wd D Wy R A Wi] w (Gives (.bool (jobOk zs F C Wd D Wy R A Wi)) w) := by
  have HV := hidH hv
  obtain ⟨va, vcap, rfl, hvc, hvm, _, _⟩ := hv
  unfold maxLen at hvm
  have BB := hidH (bMore (Below.refl w.heap.size w) (.cells (jobC (.slice va zs.length vcap) F C Wd D Wy R A Wi) 38))
  have HV1 := hidH (HV.out.below BB.out)
  have HJ := hidH (show (w.alloc (.cells (jobC (.slice va zs.length vcap) F C Wd D Wy R A Wi) 38)).heap[w.heap.size]? = some (.cells (jobC (.slice va zs.length vcap) F C Wd D Wy R A Wi) 38 (0, 0)) from heap_alloc_new w _)
  have HSU := hidH (setUp_any (.slice va zs.length vcap) zs F Wd _ _ _ HV1.out)
  have HCT := hidH (fun W => between_any C 1 60 (decide ((1 : Int) ≤ C ∧ C ≤ 60)) rfl W)
  cases h1 : setB zs F Wd
  · cases hw : wayOk D Wy
    · skip
      have HOK := hidH (show jobOk zs F C Wd D Wy R A Wi = false by unfold jobOk; rw [h1]; rfl)
      have H1 := hidH h1
      have HRO := hidH (fun W => roundingOf_no D Wy hw W)
      clear h1 hw
      unfold jobV
      unfold jobC at *
      go_enter Try.func25, Try.ntmps25
      go_wp2_with fail
      refine HSU.out.mono ?_; rintro e w2 ⟨ev, rfl, hr, hb⟩
      obtain ⟨ea, ecap, rfl⟩ := hr.some
      generalize (setL zs F Wd).length = el at *
      have B3 := hidH (bMore (bThen BB.out hb) (.cells #[.slice ea el ecap] 62))
      have J3 := hidH (heap_more (heap_keep HJ.out hb) (.cells #[.slice ea el ecap] 62))
      have HV3 := hidH ((HV1.out.below hb).below ((Below.refl _ w2).alloc (Nat.le_refl _) (.cells #[.slice ea el ecap] 62)))
      have c4 := job_cell J3.out 4 _ rfl
      have c5 := job_cell J3.out 5 _ rfl
      clear hb hr HJ BB HV1 HSU
      go_wp2_with fail
      refine (HRO.out _).mono ?_; rintro e w4 ⟨rfl, hb⟩
      have B5 := hidH (bMore (bThen B3.out hb) (.cells #[.int .i64 0, .nilFunc] 67))
      have J5 := hidH (heap_more (heap_keep J3.out hb) (.cells #[.int .i64 0, .nilFunc] 67))
      have HV5 := hidH ((HV3.out.below hb).below ((Below.refl _ w4).alloc (Nat.le_refl _) (.cells #[.int .i64 0, .nilFunc] 67)))
      have hst := fun W => store_fun W 0 .nilFunc rfl
      have e2 := job_cell J5.out 2 _ rfl
      clear hb c4 c5
      rw [H1.out]
      go_wp2_with fail
      go_ret
      exact ⟨by rw [HOK.out]; rfl, B5.out⟩
    · skip
      have HOK := hidH (show jobOk zs F C Wd D Wy R A Wi = false by unfold jobOk; rw [h1]; rfl)
      have H1 := hidH h1
      obtain ⟨dk, rfl, k6, y0, y2, _⟩ := wayOk_parts hw
      have HRO := hidH (roundingOf_yes dk Wy k6 y0 y2)
      generalize tenP dk = u at *
      clear h1 hw
      unfold jobV
      unfold jobC at *
      go_enter Try.func25, Try.ntmps25
      go_wp2_with fail
      refine HSU.out.mono ?_; rintro e w2 ⟨ev, rfl, hr, hb⟩
      obtain ⟨ea, ecap, rfl⟩ := hr.some
      generalize (setL zs F Wd).length = el at *
      have B3 := hidH (bMore (bThen BB.out hb) (.cells #[.slice ea el ecap] 62))
      have J3 := hidH (heap_more (heap_keep HJ.out hb) (.cells #[.slice ea el ecap] 62))
      have HV3 := hidH ((HV1.out.below hb).below ((Below.refl _ w2).alloc (Nat.le_refl _) (.cells #[.slice ea el ecap] 62)))
      have c4 := job_cell J3.out 4 _ rfl
      have c5 := job_cell J3.out 5 _ rfl
      clear hb hr HJ BB HV1 HSU
      go_wp2_with fail
      refine (HRO.out _).mono ?_; rintro e w4 ⟨rfl, hb⟩
      have B5 := hidH (bMore (bThen B3.out hb) (.cells #[.int .i64 u, (rFun u Wy)] 67))
      have J5 := hidH (heap_more (heap_keep J3.out hb) (.cells #[.int .i64 u, (rFun u Wy)] 67))
      have HV5 := hidH ((HV3.out.below hb).below ((Below.refl _ w4).alloc (Nat.le_refl _) (.cells #[.int .i64 u, (rFun u Wy)] 67)))
      have hst := fun W => store_fun W u (rFun u Wy) rfl
      have e2 := job_cell J5.out 2 _ rfl
      clear hb c4 c5
      rw [H1.out]
      go_wp2_with fail
      go_ret
      exact ⟨by rw [HOK.out]; rfl, B5.out⟩
  · cases hw : wayOk D Wy
    · skip
      have HOK := hidH (show jobOk zs F C Wd D Wy R A Wi = false by unfold jobOk; rw [h1, hw]; rfl)
      have H1 := hidH h1
      have HRO := hidH (fun W => roundingOf_no D Wy hw W)
      clear h1 hw
      unfold jobV
      unfold jobC at *
      go_enter Try.func25, Try.ntmps25
      go_wp2_with fail
      refine HSU.out.mono ?_; rintro e w2 ⟨ev, rfl, hr, hb⟩
      obtain ⟨ea, ecap, rfl⟩ := hr.some
      generalize (setL zs F Wd).length = el at *
      have B3 := hidH (bMore (bThen BB.out hb) (.cells #[.slice ea el ecap] 62))
      have J3 := hidH (heap_more (heap_keep HJ.out hb) (.cells #[.slice ea el ecap] 62))
      have HV3 := hidH ((HV1.out.below hb).below ((Below.refl _ w2).alloc (Nat.le_refl _) (.cells #[.slice ea el ecap] 62)))
      have c4 := job_cell J3.out 4 _ rfl
      have c5 := job_cell J3.out 5 _ rfl
      clear hb hr HJ BB HV1 HSU
      go_wp2_with fail
      refine (HRO.out _).mono ?_; rintro e w4 ⟨rfl, hb⟩
      have B5 := hidH (bMore (bThen B3.out hb) (.cells #[.int .i64 0, .nilFunc] 67))
      have J5 := hidH (heap_more (heap_keep J3.out hb) (.cells #[.int .i64 0, .nilFunc] 67))
      have HV5 := hidH ((HV3.out.below hb).below ((Below.refl _ w4).alloc (Nat.le_refl _) (.cells #[.int .i64 0, .nilFunc] 67)))
      have hst := fun W => store_fun W 0 .nilFunc rfl
      have e2 := job_cell J5.out 2 _ rfl
      clear hb c4 c5
      rw [H1.out]
      go_wp2_with fail
      go_ret
      exact ⟨by rw [HOK.out]; rfl, B5.out⟩
    · by_cases hc : (1 : Int) ≤ C ∧ C ≤ 60
      rotate_left
      · rw [decide_eq_false hc] at HCT
        have HOK := hidH (show jobOk zs F C Wd D Wy R A Wi = false by unfold jobOk; rw [h1, hw, decide_eq_false hc]; rfl)
        have H1 := hidH h1
        obtain ⟨dk, rfl, k6, y0, y2, _⟩ := wayOk_parts hw
        have HRO := hidH (roundingOf_yes dk Wy k6 y0 y2)
        generalize tenP dk = u at *
        clear h1 hw
        unfold jobV
        unfold jobC at *
        go_enter Try.func25, Try.ntmps25
        go_wp2_with fail
        refine HSU.out.mono ?_; rintro e w2 ⟨ev, rfl, hr, hb⟩
        obtain ⟨ea, ecap, rfl⟩ := hr.some
        generalize (setL zs F Wd).length = el at *
        have B3 := hidH (bMore (bThen BB.out hb) (.cells #[.slice ea el ecap] 62))
        have J3 := hidH (heap_more (heap_keep HJ.out hb) (.cells #[.slice ea el ecap] 62))
        have HV3 := hidH ((HV1.out.below hb).below ((Below.refl _ w2).alloc (Nat.le_refl _) (.cells #[.slice ea el ecap] 62)))
        have c4 := job_cell J3.out 4 _ rfl
        have c5 := job_cell J3.out 5 _ rfl
        clear hb hr HJ BB HV1 HSU
        go_wp2_with fail
        refine (HRO.out _).mono ?_; rintro e w4 ⟨rfl, hb⟩
        have B5 := hidH (bMore (bThen B3.out hb) (.cells #[.int .i64 u, (rFun u Wy)] 67))
        have J5 := hidH (heap_more (heap_keep J3.out hb) (.cells #[.int .i64 u, (rFun u Wy)] 67))
        have HV5 := hidH ((HV3.out.below hb).below ((Below.refl _ w4).alloc (Nat.le_refl _) (.cells #[.int .i64 u, (rFun u Wy)] 67)))
        have hst := fun W => store_fun W u (rFun u Wy) rfl
        have e2 := job_cell J5.out 2 _ rfl
        clear hb c4 c5
        rw [H1.out]
        go_wp2_with fail
        refine (HCT.out _).mono ?_; rintro e w6 ⟨rfl, rfl⟩
        go_wp2_with fail
        go_ret
        exact ⟨by rw [HOK.out]; rfl, B5.out⟩
      · rw [decide_eq_true hc] at HCT
        by_cases hq : capA zs F Wd C = C
        · have hce : (capA zs F Wd C == C) = true := beq_iff_eq.2 hq
          have HOK := hidH (show jobOk zs F C Wd D Wy R A Wi = layOk R A Wi by unfold jobOk; rw [h1, hw, decide_eq_true hc, hce]; rfl)
          have H1 := hidH h1
          obtain ⟨dk, rfl, k6, y0, y2, _⟩ := wayOk_parts hw
          have HRO := hidH (roundingOf_yes dk Wy k6 y0 y2)
          generalize tenP dk = u at *
          clear h1 hw
          unfold jobV
          unfold jobC at *
          go_enter Try.func25, Try.ntmps25
          go_wp2_with fail
          refine HSU.out.mono ?_; rintro e w2 ⟨ev, rfl, hr, hb⟩
          obtain ⟨ea, ecap, rfl⟩ := hr.some
          generalize (setL zs F Wd).length = el at *
          have B3 := hidH (bMore (bThen BB.out hb) (.cells #[.slice ea el ecap] 62))
          have J3 := hidH (heap_more (heap_keep HJ.out hb) (.cells #[.slice ea el ecap] 62))
          have HV3 := hidH ((HV1.out.below hb).below ((Below.refl _ w2).alloc (Nat.le_refl _) (.cells #[.slice ea el ecap] 62)))
          have c4 := job_cell J3.out 4 _ rfl
          have c5 := job_cell J3.out 5 _ rfl
          clear hb hr HJ BB HV1 HSU
          go_wp2_with fail
          refine (HRO.out _).mono ?_; rintro e w4 ⟨rfl, hb⟩
          have B5 := hidH (bMore (bThen B3.out hb) (.cells #[.int .i64 u, (rFun u Wy)] 67))
          have J5 := hidH (heap_more (heap_keep J3.out hb) (.cells #[.int .i64 u, (rFun u Wy)] 67))
          have HV5 := hidH ((HV3.out.below hb).below ((Below.refl _ w4).alloc (Nat.le_refl _) (.cells #[.int .i64 u, (rFun u Wy)] 67)))
          have hst := fun W => store_fun W u (rFun u Wy) rfl
          have e2 := job_cell J5.out 2 _ rfl
          clear hb c4 c5
          rw [H1.out]
          go_wp2_with fail
          refine (HCT.out _).mono ?_; rintro e w6 ⟨rfl, rfl⟩
          have HQ := hidH hq
          clear hq hc
          have J5d : (w4.alloc (.cells #[.int .i64 u, (rFun u Wy)] 67)).drew.heap[w.heap.size]? = _ := J5.out
          have d0 := job_cell J5d 0 _ rfl
          have d1 := job_cell J5d 1 _ rfl
          have d2 := job_cell J5d 2 _ rfl
          have d3 := job_cell J5d 3 _ rfl
          have d6 := job_cell J5d 6 _ rfl
          have d7 := job_cell J5d 7 _ rfl
          have d8 := job_cell J5d 8 _ rfl
          go_wp2_with fail
          refine wp_region_held_drew (S := fun w' => w'.cell? ⟨w.heap.size, 0, none⟩ = some (.slice va zs.length vcap) ∧ w'.cell? ⟨w.heap.size, 1, none⟩ = some (.int .i64 F) ∧ w'.cell? ⟨w.heap.size, 2, none⟩ = some (.int .i64 C) ∧ w'.cell? ⟨w.heap.size, 3, none⟩ = some (.int .i64 Wd) ∧ w'.cell? ⟨w.heap.size, 6, none⟩ = some (.int .i64 R) ∧ w'.cell? ⟨w.heap.size, 7, none⟩ = some (.int .i64 A) ∧ w'.cell? ⟨w.heap.size, 8, none⟩ = some (.int .i64 Wi)) (by kernel_rfl) ⟨d0, d1, d2, d3, d6, d7, d8⟩ (fun hHeld => ?_)
          try dsimp only
          refine onG 0 (some 37) (v := ?v1_) (by kernel_rfl) (by kernel_rfl) (by kernel_rfl) (fun _ _ _ h => h) (by rfl) hHeld ?hy1_ ?rest1_
          case hy1_ =>
            intro o ho; simp only [List.getElem?_toArray, List.getElem?_cons_zero, Option.some.injEq] at ho; subst ho; intro w hSw; (try dsimp only at hSw)
            go_simp
            try with_reducible rfl
          case rest1_ =>
          try simp only [Act.put, List.setIfInBounds_toArray, List.set_cons_zero, List.set_cons_succ]
          refine onG 1 (some 38) (v := ?v2_) (by kernel_rfl) (by kernel_rfl) (by kernel_rfl) (fun _ _ _ h => h) (by rfl) hHeld ?hy2_ ?rest2_
          case hy2_ =>
            intro o ho; simp only [List.getElem?_toArray, List.getElem?_cons_succ, List.getElem?_cons_zero, Option.some.injEq] at ho; subst ho; intro w hSw; (try dsimp only at hSw)
            go_simp
            try with_reducible rfl
          case rest2_ =>
          try simp only [Act.put, List.setIfInBounds_toArray, List.set_cons_zero, List.set_cons_succ]
          refine onG 2 (some 39) (v := ?v3_) (by kernel_rfl) (by kernel_rfl) (by kernel_rfl) (fun _ _ _ h => h) (by rfl) hHeld ?hy3_ ?rest3_
          case hy3_ =>
            intro o ho; simp only [List.getElem?_toArray, List.getElem?_cons_succ, List.getElem?_cons_zero, Option.some.injEq] at ho; subst ho; intro w hSw; (try dsimp only at hSw)
            go_simp
            try with_reducible rfl
          case rest3_ =>
          try simp only [Act.put, List.setIfInBounds_toArray, List.set_cons_zero, List.set_cons_succ]
          refine onG 3 (some 40) (v := ?v4_) (by kernel_rfl) (by kernel_rfl) (by kernel_rfl) (fun _ _ _ h => h) (by rfl) hHeld ?hy4_ ?rest4_
          case hy4_ =>
            intro o ho; simp only [List.getElem?_toArray, List.getElem?_cons_succ, List.getElem?_cons_zero, Option.some.injEq] at ho; subst ho; intro w hSw; (try dsimp only at hSw)
            go_simp
            try with_reducible rfl
          case rest4_ =>
          try simp only [Act.put, List.setIfInBounds_toArray, List.set_cons_zero, List.set_cons_succ]
          refine onG 4 (some 41) (v := ?v5_) (by kernel_rfl) (by kernel_rfl) (by kernel_rfl) (fun _ _ _ h => h) (by rfl) hHeld ?hy5_ ?rest5_
          case hy5_ =>
            intro o ho; simp only [List.getElem?_toArray, List.getElem?_cons_succ, List.getElem?_cons_zero, Option.some.injEq] at ho; subst ho; intro w hSw; (try dsimp only at hSw)
            go_simp
            try with_reducible rfl
          case rest5_ =>
          try simp only [Act.put, List.setIfInBounds_toArray, List.set_cons_zero, List.set_cons_succ]
          refine onG 5 (some 42) (v := ?v6_) (by kernel_rfl) (by kernel_rfl) (by kernel_rfl) (fun _ _ _ h => h) (by rfl) hHeld ?hy6_ ?rest6_
          case hy6_ =>
            intro o ho; simp only [List.getElem?_toArray, List.getElem?_cons_succ, List.getElem?_cons_zero, Option.some.injEq] at ho; subst ho; intro w hSw; (try dsimp only at hSw)
            go_simp
            try with_reducible rfl
          case rest6_ =>
          try simp only [Act.put, List.setIfInBounds_toArray, List.set_cons_zero, List.set_cons_succ]
          refine onG 6 (some 43) (v := ?v7_) (by kernel_rfl) (by kernel_rfl) (by kernel_rfl) (fun _ _ _ h => h) (by rfl) hHeld ?hy7_ ?rest7_
          case hy7_ =>
            intro o ho; simp only [List.getElem?_toArray, List.getElem?_cons_succ, List.getElem?_cons_zero, Option.some.injEq] at ho; subst ho; intro w hSw; (try dsimp only at hSw)
            go_simp
            try with_reducible rfl
          case rest7_ =>
          try simp only [Act.put, List.setIfInBounds_toArray, List.set_cons_zero, List.set_cons_succ]
          refine onG 7 (some 44) (v := ?v8_) (by kernel_rfl) (by kernel_rfl) (by kernel_rfl) (fun _ _ _ h => h) (by rfl) hHeld ?hy8_ ?rest8_
          case hy8_ =>
            intro o ho; simp only [List.getElem?_toArray, List.getElem?_cons_succ, List.getElem?_cons_zero, Option.some.injEq] at ho; subst ho; intro w hSw; (try dsimp only at hSw)
            go_simp
            try with_reducible rfl
          case rest8_ =>
          try simp only [Act.put, List.setIfInBounds_toArray, List.set_cons_zero, List.set_cons_succ]
          refine onG 9 (some 46) (v := ?v9_) (by kernel_rfl) (by kernel_rfl) (by kernel_rfl) (fun _ _ _ h => h) (by rfl) hHeld ?hy9_ ?rest9_
          case hy9_ =>
            intro o ho; simp only [List.getElem?_toArray, List.getElem?_cons_succ, List.getElem?_cons_zero, Option.some.injEq] at ho; subst ho; intro w hSw; (try dsimp only at hSw)
            go_simp
            try with_reducible rfl
          case rest9_ =>
          try simp only [Act.put, List.setIfInBounds_toArray, List.set_cons_zero, List.set_cons_succ]
          refine onG 10 (some 47) (v := ?v10_) (by kernel_rfl) (by kernel_rfl) (by kernel_rfl) (fun _ _ _ h => h) (by rfl) hHeld ?hy10_ ?rest10_
          case hy10_ =>
            intro o ho; simp only [List.getElem?_toArray, List.getElem?_cons_succ, List.getElem?_cons_zero, Option.some.injEq] at ho; subst ho; intro w hSw; (try dsimp only at hSw)
            go_simp
            try with_reducible rfl
          case rest10_ =>
          try simp only [Act.put, List.setIfInBounds_toArray, List.set_cons_zero, List.set_cons_succ]
          refine callG 8 (by kernel_rfl) ?_
          intro o ho; simp only [List.getElem?_toArray, List.getElem?_cons_succ, List.getElem?_cons_zero, Option.some.injEq] at ho; subst ho; intro K hK
          go_simp
          go_at_call 50
          (with_reducible refine (capacity_any (.slice va zs.length vcap) zs F Wd C _ _ _ (HV5.out.below (Below.refl _ _).drew)).mono ?_)
          rintro e w7 ⟨rfl, hb⟩
          (have B7 := hidH (B5.out.drew.trans (hb.mono B5.out.size)))
          (have J7 := hidH (heap_keep (show ((w4.alloc (.cells #[.int .i64 u, (rFun u Wy)] 67))).drew.heap[w.heap.size]? = _ from J5.out) hb))
          (have f0 := job_cell J7.out 0 _ rfl)
          (have f1 := job_cell J7.out 1 _ rfl)
          (have f2 := job_cell J7.out 2 _ rfl)
          (have f3 := job_cell J7.out 3 _ rfl)
          (have f6 := job_cell J7.out 6 _ rfl)
          (have f7 := job_cell J7.out 7 _ rfl)
          (have f8 := job_cell J7.out 8 _ rfl)
          (clear hb hHeld)
          go_wp2_with fail
          refine hK.out _ _ ?_ (fun hHeld => ?_)
          · exact ⟨f0, f1, f2, f3, f6, f7, f8⟩
          clear hK K
          try simp only [Act.put, List.setIfInBounds_toArray, List.set_cons_zero, List.set_cons_succ]
          refine onG 11 (some 48) (v := .bool true) (by kernel_rfl) (by kernel_rfl) (by kernel_rfl) (fun _ _ _ h => h) (by rfl) hHeld ?hy11_ ?rest11_
          case hy11_ =>
            intro o ho; simp only [List.getElem?_toArray, List.getElem?_cons_succ, List.getElem?_cons_zero, Option.some.injEq] at ho; subst ho; intro w hSw; (try dsimp only at hSw)
            go_simp
            all_goals (try simp [hce]); all_goals (exact HQ.out)
          case rest11_ =>
          try simp only [Act.put, List.setIfInBounds_toArray, List.set_cons_zero, List.set_cons_succ]
          refine onG 12 (some 49) (v := ?v12_) (by kernel_rfl) (by kernel_rfl) (by kernel_rfl) (fun _ _ _ h => h) (by rfl) hHeld ?hy12_ ?rest12_
          case hy12_ =>
            intro o ho; simp only [List.getElem?_toArray, List.getElem?_cons_succ, List.getElem?_cons_zero, Option.some.injEq] at ho; subst ho; intro w hSw; (try dsimp only at hSw)
            go_simp
            try with_reducible rfl
          case rest12_ =>
          try simp only [Act.put, List.setIfInBounds_toArray, List.set_cons_zero, List.set_cons_succ]
          refine onG 13 (some 50) (v := ?v13_) (by kernel_rfl) (by kernel_rfl) (by kernel_rfl) (fun _ _ _ h => h) (by rfl) hHeld ?hy13_ ?rest13_
          case hy13_ =>
            intro o ho; simp only [List.getElem?_toArray, List.getElem?_cons_succ, List.getElem?_cons_zero, Option.some.injEq] at ho; subst ho; intro w hSw; (try dsimp only at hSw)
            go_simp
            try with_reducible rfl
          case rest13_ =>
          try simp only [Act.put, List.setIfInBounds_toArray, List.set_cons_zero, List.set_cons_succ]
          refine onG 14 (some 51) (v := ?v14_) (by kernel_rfl) (by kernel_rfl) (by kernel_rfl) (fun _ _ _ h => h) (by rfl) hHeld ?hy14_ ?rest14_
          case hy14_ =>
            intro o ho; simp only [List.getElem?_toArray, List.getElem?_cons_succ, List.getElem?_cons_zero, Option.some.injEq] at ho; subst ho; intro w hSw; (try dsimp only at hSw)
            go_simp
            try with_reducible rfl
          case rest14_ =>
          try simp only [Act.put, List.setIfInBounds_toArray, List.set_cons_zero, List.set_cons_succ]
          refine callG 15 (by kernel_rfl) ?_
          intro o ho; simp only [List.getElem?_toArray, List.getElem?_cons_succ, List.getElem?_cons_zero, Option.some.injEq] at ho; subst ho; intro K hK
          go_simp
          go_at_call 51
          (with_reducible refine (layV_gives R A Wi _).mono ?_)
          rintro e w8 ⟨rfl, hb⟩
          (have B8 := hidH (bThen B7.out hb))
          (have J8 := hidH (heap_keep J7.out hb))
          (have g0 := job_cell J8.out 0 _ rfl)
          (have g1 := job_cell J8.out 1 _ rfl)
          (have g2 := job_cell J8.out 2 _ rfl)
          (have g3 := job_cell J8.out 3 _ rfl)
          (have g6 := job_cell J8.out 6 _ rfl)
          (have g7 := job_cell J8.out 7 _ rfl)
          (have g8 := job_cell J8.out 8 _ rfl)
          (clear hb hHeld)
          go_wp2_with fail
          refine hK.out _ _ ?_ (fun hHeld => ?_)
          · exact ⟨g0, g1, g2, g3, g6, g7, g8⟩
          clear hK K
          try simp only [Act.put, List.setIfInBounds_toArray, List.set_cons_zero, List.set_cons_succ]
          refine onG 16 (some 53) (v := ?v15_) (by kernel_rfl) (by kernel_rfl) (by kernel_rfl) (fun _ _ _ h => h) (by rfl) hHeld ?hy15_ ?rest15_
          case hy15_ =>
            intro o ho; simp only [List.getElem?_toArray, List.getElem?_cons_succ, List.getElem?_cons_zero, Option.some.injEq] at ho; subst ho; intro w hSw; (try dsimp only at hSw)
            go_simp
            try with_reducible rfl
          case rest15_ =>
          try simp only [Act.put, List.setIfInBounds_toArray, List.set_cons_zero, List.set_cons_succ]
          refine onG 17 (some 2) (v := ?v16_) (by kernel_rfl) (by kernel_rfl) (by kernel_rfl) (fun _ _ _ h => h) (by rfl) hHeld ?hy16_ ?rest16_
          case hy16_ =>
            intro o ho; simp only [List.getElem?_toArray, List.getElem?_cons_succ, List.getElem?_cons_zero, Option.some.injEq] at ho; subst ho; intro w hSw; (try dsimp only at hSw)
            go_simp
            try with_reducible rfl
          case rest16_ =>
          try simp only [Act.put, List.setIfInBounds_toArray, List.set_cons_zero, List.set_cons_succ]
          refine wpAnyH_done (by kernel_rfl) ?_ _
          go_wp2_with fail
          go_ret
          exact ⟨by rw [HOK.out]; rfl, B8.out⟩
        · have hce : (capA zs F Wd C == C) = false := beq_eq_false_iff_ne.2 hq
          have HOK := hidH (show jobOk zs F C Wd D Wy R A Wi = false by unfold jobOk; rw [h1, hw, decide_eq_true hc, hce]; rfl)
          have H1 := hidH h1
          obtain ⟨dk, rfl, k6, y0, y2, _⟩ := wayOk_parts hw
          have HRO := hidH (roundingOf_yes dk Wy k6 y0 y2)
          generalize tenP dk = u at *
          clear h1 hw
          unfold jobV
          unfold jobC at *
          go_enter Try.func25, Try.ntmps25
          go_wp2_with fail
          refine HSU.out.mono ?_; rintro e w2 ⟨ev, rfl, hr, hb⟩
          obtain ⟨ea, ecap, rfl⟩ := hr.some
          generalize (setL zs F Wd).length = el at *
          have B3 := hidH (bMore (bThen BB.out hb) (.cells #[.slice ea el ecap] 62))
          have J3 := hidH (heap_more (heap_keep HJ.out hb) (.cells #[.slice ea el ecap] 62))
          have HV3 := hidH ((HV1.out.below hb).below ((Below.refl _ w2).alloc (Nat.le_refl _) (.cells #[.slice ea el ecap] 62)))
          have c4 := job_cell J3.out 4 _ rfl
          have c5 := job_cell J3.out 5 _ rfl
          clear hb hr HJ BB HV1 HSU
          go_wp2_with fail
          refine (HRO.out _).mono ?_; rintro e w4 ⟨rfl, hb⟩
          have B5 := hidH (bMore (bThen B3.out hb) (.cells #[.int .i64 u, (rFun u Wy)] 67))
          have J5 := hidH (heap_more (heap_keep J3.out hb) (.cells #[.int .i64 u, (rFun u Wy)] 67))
          have HV5 := hidH ((HV3.out.below hb).below ((Below.refl _ w4).alloc (Nat.le_refl _) (.cells #[.int .i64 u, (rFun u Wy)] 67)))
          have hst := fun W => store_fun W u (rFun u Wy) rfl
          have e2 := job_cell J5.out 2 _ rfl
          clear hb c4 c5
          rw [H1.out]
          go_wp2_with fail
          refine (HCT.out _).mono ?_; rintro e w6 ⟨rfl, rfl⟩
          have HQ := hidH hq
          clear hq hc
          have J5d : (w4.alloc (.cells #[.int .i64 u, (rFun u Wy)] 67)).drew.heap[w.heap.size]? = _ := J5.out
          have d0 := job_cell J5d 0 _ rfl
          have d1 := job_cell J5d 1 _ rfl
          have d2 := job_cell J5d 2 _ rfl
          have d3 := job_cell J5d 3 _ rfl
          have d6 := job_cell J5d 6 _ rfl
          have d7 := job_cell J5d 7 _ rfl
          have d8 := job_cell J5d 8 _ rfl
          go_wp2_with fail
          refine wp_region_held_drew (S := fun w' => w'.cell? ⟨w.heap.size, 0, none⟩ = some (.slice va zs.length vcap) ∧ w'.cell? ⟨w.heap.size, 1, none⟩ = some (.int .i64 F) ∧ w'.cell? ⟨w.heap.size, 2, none⟩ = some (.int .i64 C) ∧ w'.cell? ⟨w.heap.size, 3, none⟩ = some (.int .i64 Wd) ∧ w'.cell? ⟨w.heap.size, 6, none⟩ = some (.int .i64 R) ∧ w'.cell? ⟨w.heap.size, 7, none⟩ = some (.int .i64 A) ∧ w'.cell? ⟨w.heap.size, 8, none⟩ = some (.int .i64 Wi)) (by kernel_rfl) ⟨d0, d1, d2, d3, d6, d7, d8⟩ (fun hHeld => ?_)
          try dsimp only
          refine onG 0 (some 37) (v := ?v17_) (by kernel_rfl) (by kernel_rfl) (by kernel_rfl) (fun _ _ _ h => h) (by rfl) hHeld ?hy17_ ?rest17_
          case hy17_ =>
            intro o ho; simp only [List.getElem?_toArray, List.getElem?_cons_zero, Option.some.injEq] at ho; subst ho; intro w hSw; (try dsimp only at hSw)
            go_simp
            try with_reducible rfl
          case rest17_ =>
          try simp only [Act.put, List.setIfInBounds_toArray, List.set_cons_zero, List.set_cons_succ]
          refine onG 1 (some 38) (v := ?v18_) (by kernel_rfl) (by kernel_rfl) (by kernel_rfl) (fun _ _ _ h => h) (by rfl) hHeld ?hy18_ ?rest18_
          case hy18_ =>
            intro o ho; simp only [List.getElem?_toArray, List.getElem?_cons_succ, List.getElem?_cons_zero, Option.some.injEq] at ho; subst ho; intro w hSw; (try dsimp only at hSw)
            go_simp
            try with_reducible rfl
          case rest18_ =>
          try simp only [Act.put, List.setIfInBounds_toArray, List.set_cons_zero, List.set_cons_succ]
          refine onG 2 (some 39) (v := ?v19_) (by kernel_rfl) (by kernel_rfl) (by kernel_rfl) (fun _ _ _ h => h) (by rfl) hHeld ?hy19_ ?rest19_
          case hy19_ =>
            intro o ho; simp only [List.getElem?_toArray, List.getElem?_cons_succ, List.getElem?_cons_zero, Option.some.injEq] at ho; subst ho; intro w hSw; (try dsimp only at hSw)
            go_simp
            try with_reducible rfl
          case rest19_ =>
          try simp only [Act.put, List.setIfInBounds_toArray, List.set_cons_zero, List.set_cons_succ]
          refine onG 3 (some 40) (v := ?v20_) (by kernel_rfl) (by kernel_rfl) (by kernel_rfl) (fun _ _ _ h => h) (by rfl) hHeld ?hy20_ ?rest20_
          case hy20_ =>
            intro o ho; simp only [List.getElem?_toArray, List.getElem?_cons_succ, List.getElem?_cons_zero, Option.some.injEq] at ho; subst ho; intro w hSw; (try dsimp only at hSw)
            go_simp
            try with_reducible rfl
          case rest20_ =>
          try simp only [Act.put, List.setIfInBounds_toArray, List.set_cons_zero, List.set_cons_succ]
          refine onG 4 (some 41) (v := ?v21_) (by kernel_rfl) (by kernel_rfl) (by kernel_rfl) (fun _ _ _ h => h) (by rfl) hHeld ?hy21_ ?rest21_
          case hy21_ =>
            intro o ho; simp only [List.getElem?_toArray, List.getElem?_cons_succ, List.getElem?_cons_zero, Option.some.injEq] at ho; subst ho; intro w hSw; (try dsimp only at hSw)
            go_simp
            try with_reducible rfl
          case rest21_ =>
          try simp only [Act.put, List.setIfInBounds_toArray, List.set_cons_zero, List.set_cons_succ]
          refine onG 5 (some 42) (v := ?v22_) (by kernel_rfl) (by kernel_rfl) (by kernel_rfl) (fun _ _ _ h => h) (by rfl) hHeld ?hy22_ ?rest22_
          case hy22_ =>
            intro o ho; simp only [List.getElem?_toArray, List.getElem?_cons_succ, List.getElem?_cons_zero, Option.some.injEq] at ho; subst ho; intro w hSw; (try dsimp only at hSw)
            go_simp
            try with_reducible rfl
          case rest22_ =>
          try simp only [Act.put, List.setIfInBounds_toArray, List.set_cons_zero, List.set_cons_succ]
          refine onG 6 (some 43) (v := ?v23_) (by kernel_rfl) (by kernel_rfl) (by kernel_rfl) (fun _ _ _ h => h) (by rfl) hHeld ?hy23_ ?rest23_
          case hy23_ =>
            intro o ho; simp only [List.getElem?_toArray, List.getElem?_cons_succ, List.getElem?_cons_zero, Option.some.injEq] at ho; subst ho; intro w hSw; (try dsimp only at hSw)
            go_simp
            try with_reducible rfl
          case rest23_ =>
          try simp only [Act.put, List.setIfInBounds_toArray, List.set_cons_zero, List.set_cons_succ]
          refine onG 7 (some 44) (v := ?v24_) (by kernel_rfl) (by kernel_rfl) (by kernel_rfl) (fun _ _ _ h => h) (by rfl) hHeld ?hy24_ ?rest24_
          case hy24_ =>
            intro o ho; simp only [List.getElem?_toArray, List.getElem?_cons_succ, List.getElem?_cons_zero, Option.some.injEq] at ho; subst ho; intro w hSw; (try dsimp only at hSw)
            go_simp
            try with_reducible rfl
          case rest24_ =>
          try simp only [Act.put, List.setIfInBounds_toArray, List.set_cons_zero, List.set_cons_succ]
          refine onG 9 (some 46) (v := ?v25_) (by kernel_rfl) (by kernel_rfl) (by kernel_rfl) (fun _ _ _ h => h) (by rfl) hHeld ?hy25_ ?rest25_
          case hy25_ =>
            intro o ho; simp only [List.getElem?_toArray, List.getElem?_cons_succ, List.getElem?_cons_zero, Option.some.injEq] at ho; subst ho; intro w hSw; (try dsimp only at hSw)
            go_simp
            try with_reducible rfl
          case rest25_ =>
          try simp only [Act.put, List.setIfInBounds_toArray, List.set_cons_zero, List.set_cons_succ]
          refine onG 10 (some 47) (v := ?v26_) (by kernel_rfl) (by kernel_rfl) (by kernel_rfl) (fun _ _ _ h => h) (by rfl) hHeld ?hy26_ ?rest26_
          case hy26_ =>
            intro o ho; simp only [List.getElem?_toArray, List.getElem?_cons_succ, List.getElem?_cons_zero, Option.some.injEq] at ho; subst ho; intro w hSw; (try dsimp only at hSw)
            go_simp
            try with_reducible rfl
          case rest26_ =>
          try simp only [Act.put, List.setIfInBounds_toArray, List.set_cons_zero, List.set_cons_succ]
          refine callG 8 (by kernel_rfl) ?_
          intro o ho; simp only [List.getElem?_toArray, List.getElem?_cons_succ, List.getElem?_cons_zero, Option.some.injEq] at ho; subst ho; intro K hK
          go_simp
          go_at_call 50
          (with_reducible refine (capacity_any (.slice va zs.length vcap) zs F Wd C _ _ _ (HV5.out.below (Below.refl _ _).drew)).mono ?_)
          rintro e w7 ⟨rfl, hb⟩
          (have B7 := hidH (B5.out.drew.trans (hb.mono B5.out.size)))
          (have J7 := hidH (heap_keep (show ((w4.alloc (.cells #[.int .i64 u, (rFun u Wy)] 67))).drew.heap[w.heap.size]? = _ from J5.out) hb))
          (have f0 := job_cell J7.out 0 _ rfl)
          (have f1 := job_cell J7.out 1 _ rfl)
          (have f2 := job_cell J7.out 2 _ rfl)
          (have f3 := job_cell J7.out 3 _ rfl)
          (have f6 := job_cell J7.out 6 _ rfl)
          (have f7 := job_cell J7.out 7 _ rfl)
          (have f8 := job_cell J7.out 8 _ rfl)
          (clear hb hHeld)
          go_wp2_with fail
          refine hK.out _ _ ?_ (fun hHeld => ?_)
          · exact ⟨f0, f1, f2, f3, f6, f7, f8⟩
          clear hK K
          try simp only [Act.put, List.setIfInBounds_toArray, List.set_cons_zero, List.set_cons_succ]
          refine onG 11 (some 48) (v := .bool false) (by kernel_rfl) (by kernel_rfl) (by kernel_rfl) (fun _ _ _ h => h) (by rfl) hHeld ?hy27_ ?rest27_
          case hy27_ =>
            intro o ho; simp only [List.getElem?_toArray, List.getElem?_cons_succ, List.getElem?_cons_zero, Option.some.injEq] at ho; subst ho; intro w hSw; (try dsimp only at hSw)
            go_simp
            all_goals (try simp [hce]); all_goals (try exact HQ.out)
          case rest27_ =>
          try simp only [Act.put, List.setIfInBounds_toArray, List.set_cons_zero, List.set_cons_succ]
          refine onG 12 (some 49) (v := ?v28_) (by kernel_rfl) (by kernel_rfl) (by kernel_rfl) (fun _ _ _ h => h) (by rfl) hHeld ?hy28_ ?rest28_
          case hy28_ =>
            intro o ho; simp only [List.getElem?_toArray, List.getElem?_cons_succ, List.getElem?_cons_zero, Option.some.injEq] at ho; subst ho; intro w hSw; (try dsimp only at hSw)
            go_simp
            try with_reducible rfl
          case rest28_ =>
          try simp only [Act.put, List.setIfInBounds_toArray, List.set_cons_zero, List.set_cons_succ]
          refine offG 13 (some 50) (by kernel_rfl) (by kernel_rfl) (by kernel_rfl) (fun _ _ _ h => h) (by rfl) hHeld ?_
          try simp only [Act.put, List.setIfInBounds_toArray, List.set_cons_zero, List.set_cons_succ]
          refine offG 14 (some 51) (by kernel_rfl) (by kernel_rfl) (by kernel_rfl) (fun _ _ _ h => h) (by rfl) hHeld ?_
          try simp only [Act.put, List.setIfInBounds_toArray, List.set_cons_zero, List.set_cons_succ]
          refine offG 15 (some 52) (by kernel_rfl) (by kernel_rfl) (by kernel_rfl) (fun _ _ _ h => h) (by rfl) hHeld ?_
          try simp only [Act.put, List.setIfInBounds_toArray, List.set_cons_zero, List.set_cons_succ]
          refine onG 16 (some 53) (v := ?v29_) (by kernel_rfl) (by kernel_rfl) (by kernel_rfl) (fun _ _ _ h => h) (by rfl) hHeld ?hy29_ ?rest29_
          case hy29_ =>
            intro o ho; simp only [List.getElem?_toArray, List.getElem?_cons_succ, List.getElem?_cons_zero, Option.some.injEq] at ho; subst ho; intro w hSw; (try dsimp only at hSw)
            go_simp
            try with_reducible rfl
          case rest29_ =>
          try simp only [Act.put, List.setIfInBounds_toArray, List.set_cons_zero, List.set_cons_succ]
          refine onG 17 (some 2) (v := ?v30_) (by kernel_rfl) (by kernel_rfl) (by kernel_rfl) (fun _ _ _ h => h) (by rfl) hHeld ?hy30_ ?rest30_
          case hy30_ =>
            intro o ho; simp only [List.getElem?_toArray, List.getElem?_cons_succ, List.getElem?_cons_zero, Option.some.injEq] at ho; subst ho; intro w hSw; (try dsimp only at hSw)
            go_simp
            try with_reducible rfl
          case rest30_ =>
          try simp only [Act.put, List.setIfInBounds_toArray, List.set_cons_zero, List.set_cons_succ]
          refine wpAnyH_done (by kernel_rfl) ?_ _
          go_wp2_with fail
          go_ret
          exact ⟨by rw [HOK.out]; rfl, B7.out⟩
end Go.Proofs.Ytcinhmfjnjecdaa
