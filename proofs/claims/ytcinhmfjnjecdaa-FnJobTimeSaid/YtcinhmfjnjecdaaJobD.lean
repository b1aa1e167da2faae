/-
  JobValid and JobTime: the model, at every argument. No conditions but that slices fit in memory.
-/
import Derived.Test.YtcinhmfjnjecdaaJobC
namespace Go.Proofs.Ytcinhmfjnjecdaa
set_option maxRecDepth 4000
open Go.RowKit
theorem sLayV_gives (R A W : Int) (w : World) : Calls Try.prog 63 #[.agg #[.int .i64 R, .int .i64 A, .int .i64 W]] w (Gives (.bool (layOk R A W)) w) := sLayoutValid_gives R A W w
theorem setB_poly {zs : List Int} {n wi : Int} (h : setB zs n wi = true) : polyOk zs = true := by
  unfold setB at h
  rw [Bool.and_eq_true] at h
  have h1 := h.1
  unfold shiftB at h1
  rw [Bool.and_eq_true, Bool.and_eq_true] at h1
  exact h1.1.1
theorem jobOk_poly {zs : List Int} (F C Wd D Wy R A Wi : Int) (h : polyOk zs = false) : jobOk zs F C Wd D Wy R A Wi = false := by
  cases h1 : setB zs F Wd
  · unfold jobOk; rw [h1]; rfl
  · rw [setB_poly h1] at h; cases h
set_option maxHeartbeats 3200000 in
theorem sJobValid_any (v : Value) (zs : List Int) (F C Wd D Wy R A Wi : Int) (w : World) (lo hi : Nat) (hv : Lies w lo hi v zs) : Calls Try.prog 47 #[jobV v F C Wd D Wy R A Wi] w (Gives (.bool (jobOk zs F C Wd D Wy R A Wi)) w) := by
  have HV := hidH hv
  obtain ⟨va, vcap, rfl, hvc, hvm, _, _⟩ := hv
  unfold maxLen at hvm
  have BB := hidH (bMore (Below.refl w.heap.size w) (.cells (jobC (.slice va zs.length vcap) F C Wd D Wy R A Wi) 38))
  have HV1 := hidH (HV.out.below BB.out)
  have HJ := hidH (show (w.alloc (.cells (jobC (.slice va zs.length vcap) F C Wd D Wy R A Wi) 38)).heap[w.heap.size]? = some (.cells (jobC (.slice va zs.length vcap) F C Wd D Wy R A Wi) 38 (0, 0)) from heap_alloc_new w _)
  have HPV := hidH (sPolyValid_any (.slice va zs.length vcap) zs _ _ _ HV1.out)
  have HCT := hidH (fun W => sIn_any C 1 60 (decide ((1 : Int) ≤ C ∧ C ≤ 60)) rfl W)
  cases hp : polyOk zs
  · have HP := hidH hp
    have HOK := hidH (show jobOk zs F C Wd D Wy R A Wi = false by exact jobOk_poly F C Wd D Wy R A Wi hp)
    clear hp
    unfold jobV
    unfold jobC at *
    go_enter Try.func47, Try.ntmps47
    go_wp2_with fail
    refine HPV.out.mono ?_; rintro e w2 ⟨rfl, rfl⟩
    rw [HP.out]
    go_wp2_with fail
    go_ret
    exact ⟨by rw [HOK.out]; rfl, BB.out⟩
  · have HP := hidH hp
    by_cases hc : (1 : Int) ≤ C ∧ C ≤ 60
    rotate_left
    · rw [decide_eq_false hc] at HCT
      have HOK := hidH (show jobOk zs F C Wd D Wy R A Wi = false by unfold jobOk; rw [decide_eq_false hc]; simp)
      clear hp hc
      unfold jobV
      unfold jobC at *
      go_enter Try.func47, Try.ntmps47
      go_wp2_with fail
      refine HPV.out.mono ?_; rintro e w2 ⟨rfl, rfl⟩
      rw [HP.out]
      go_wp2_with fail
      refine (HCT.out _).mono ?_; rintro e w2 ⟨rfl, rfl⟩
      go_wp2_with fail
      go_ret
      exact ⟨by rw [HOK.out]; rfl, BB.out⟩
    · rw [decide_eq_true hc] at HCT
      cases hw : wayOk D Wy
      · have HW := hidH hw
        have HOK := hidH (show jobOk zs F C Wd D Wy R A Wi = false by unfold jobOk; rw [hw]; simp)
        clear hp hc hw
        unfold jobV
        unfold jobC at *
        go_enter Try.func47, Try.ntmps47
        go_wp2_with fail
        refine HPV.out.mono ?_; rintro e w2 ⟨rfl, rfl⟩
        rw [HP.out]
        go_wp2_with fail
        refine (HCT.out _).mono ?_; rintro e w2 ⟨rfl, rfl⟩
        go_wp2_with fail
        refine (sWay_any D Wy _).mono ?_; rintro e w2 ⟨rfl, rfl⟩
        rw [HW.out]
        go_wp2_with fail
        go_ret
        exact ⟨by rw [HOK.out]; rfl, BB.out⟩
      · have HW := hidH hw
        cases hl : layOk R A Wi
        · have HL := hidH hl
          have HOK := hidH (show jobOk zs F C Wd D Wy R A Wi = false by unfold jobOk; rw [hl]; simp)
          clear hp hc hw hl
          unfold jobV
          unfold jobC at *
          go_enter Try.func47, Try.ntmps47
          go_wp2_with fail
          refine HPV.out.mono ?_; rintro e w2 ⟨rfl, rfl⟩
          rw [HP.out]
          go_wp2_with fail
          refine (HCT.out _).mono ?_; rintro e w2 ⟨rfl, rfl⟩
          go_wp2_with fail
          refine (sWay_any D Wy _).mono ?_; rintro e w2 ⟨rfl, rfl⟩
          rw [HW.out]
          go_wp2_with fail
          refine (sLayV_gives R A Wi _).mono ?_; rintro e w3 ⟨rfl, hb⟩
          rw [HL.out]
          have B3 := hidH (bThen BB.out hb)
          have J3 := hidH (heap_keep HJ.out hb)
          have HV3 := hidH (HV1.out.below hb)
          clear hb
          go_wp2_with fail
          go_ret
          exact ⟨by rw [HOK.out]; rfl, B3.out⟩
        · have HL := hidH hl
          cases hs : setB zs F Wd
          · have HS := hidH hs
            have HOK := hidH (show jobOk zs F C Wd D Wy R A Wi = false by unfold jobOk; rw [hs]; rfl)
            clear hp hc hw hl hs
            unfold jobV
            unfold jobC at *
            go_enter Try.func47, Try.ntmps47
            go_wp2_with fail
            refine HPV.out.mono ?_; rintro e w2 ⟨rfl, rfl⟩
            rw [HP.out]
            go_wp2_with fail
            refine (HCT.out _).mono ?_; rintro e w2 ⟨rfl, rfl⟩
            go_wp2_with fail
            refine (sWay_any D Wy _).mono ?_; rintro e w2 ⟨rfl, rfl⟩
            rw [HW.out]
            go_wp2_with fail
            refine (sLayV_gives R A Wi _).mono ?_; rintro e w3 ⟨rfl, hb⟩
            rw [HL.out]
            have B3 := hidH (bThen BB.out hb)
            have J3 := hidH (heap_keep HJ.out hb)
            have HV3 := hidH (HV1.out.below hb)
            clear hb
            have c0 := job_cell J3.out 0 _ rfl
            have c1 := job_cell J3.out 1 _ rfl
            have c3 := job_cell J3.out 3 _ rfl
            go_wp2_with fail
            refine (sSetUp_any (.slice va zs.length vcap) zs F Wd _ _ _ HV3.out).mono ?_; rintro e w4 ⟨ev, rfl, hr, hb⟩
            rw [HS.out]
            obtain ⟨ea, ecap, rfl⟩ := hr.some
            generalize (setL zs F Wd).length = el at *
            have B5 := hidH (bMore (bThen B3.out hb) (.cells #[.slice ea el ecap] 62))
            have J5 := hidH (heap_more (heap_keep J3.out hb) (.cells #[.slice ea el ecap] 62))
            have HV5 := hidH ((HV3.out.below hb).below ((Below.refl _ w4).alloc (Nat.le_refl _) (.cells #[.slice ea el ecap] 62)))
            clear hb hr c0 c1 c3
            have J5d : (w4.alloc (.cells #[.slice ea el ecap] 62)).drew.heap[w.heap.size]? = _ := J5.out
            have d0 := job_cell J5d 0 _ rfl
            have d1 := job_cell J5d 1 _ rfl
            have d2 := job_cell J5d 2 _ rfl
            have d3 := job_cell J5d 3 _ rfl
            have d6 := job_cell J5d 6 _ rfl
            have d7 := job_cell J5d 7 _ rfl
            have d8 := job_cell J5d 8 _ rfl
            go_wp2_with fail
            refine wp_region_held_drew (S := fun w' => w'.cell? ⟨w.heap.size, 0, none⟩ = some (.slice va zs.length vcap) ∧ w'.cell? ⟨w.heap.size, 1, none⟩ = some (.int .i64 F) ∧ w'.cell? ⟨w.heap.size, 2, none⟩ = some (.int .i64 C) ∧ w'.cell? ⟨w.heap.size, 3, none⟩ = some (.int .i64 Wd) ∧ w'.cell? ⟨w.heap.size, 6, none⟩ = some (.int .i64 R) ∧ w'.cell? ⟨w.heap.size, 7, none⟩ = some (.int .i64 A) ∧ w'.cell? ⟨w.heap.size, 8, none⟩ = some (.int .i64 Wi)) (by kernel_rfl) ⟨d0, d1, d2, d3, d6, d7, d8⟩ (fun hHeld => ?_)
            try dsimp only
            refine onG 0 (some 39) (v := ?v31_) (by kernel_rfl) (by kernel_rfl) (by kernel_rfl) (fun _ _ _ h => h) (by rfl) hHeld ?hy31_ ?rest31_
            case hy31_ =>
              intro o ho; simp only [List.getElem?_toArray, List.getElem?_cons_zero, Option.some.injEq] at ho; subst ho; intro w hSw; (try dsimp only at hSw)
              go_simp
              try with_reducible rfl
            case rest31_ =>
            try simp only [Act.put, List.setIfInBounds_toArray, List.set_cons_zero, List.set_cons_succ]
            refine onG 1 (some 40) (v := ?v32_) (by kernel_rfl) (by kernel_rfl) (by kernel_rfl) (fun _ _ _ h => h) (by rfl) hHeld ?hy32_ ?rest32_
            case hy32_ =>
              intro o ho; simp only [List.getElem?_toArray, List.getElem?_cons_succ, List.getElem?_cons_zero, Option.some.injEq] at ho; subst ho; intro w hSw; (try dsimp only at hSw)
              go_simp
              try with_reducible rfl
            case rest32_ =>
            try simp only [Act.put, List.setIfInBounds_toArray, List.set_cons_zero, List.set_cons_succ]
            refine offG 2 (some 41) (by kernel_rfl) (by kernel_rfl) (by kernel_rfl) (fun _ _ _ h => h) (by rfl) hHeld ?_
            try simp only [Act.put, List.setIfInBounds_toArray, List.set_cons_zero, List.set_cons_succ]
            refine offG 3 (some 42) (by kernel_rfl) (by kernel_rfl) (by kernel_rfl) (fun _ _ _ h => h) (by rfl) hHeld ?_
            try simp only [Act.put, List.setIfInBounds_toArray, List.set_cons_zero, List.set_cons_succ]
            refine offG 4 (some 43) (by kernel_rfl) (by kernel_rfl) (by kernel_rfl) (fun _ _ _ h => h) (by rfl) hHeld ?_
            try simp only [Act.put, List.setIfInBounds_toArray, List.set_cons_zero, List.set_cons_succ]
            refine offG 5 (some 44) (by kernel_rfl) (by kernel_rfl) (by kernel_rfl) (fun _ _ _ h => h) (by rfl) hHeld ?_
            try simp only [Act.put, List.setIfInBounds_toArray, List.set_cons_zero, List.set_cons_succ]
            refine offG 6 (some 45) (by kernel_rfl) (by kernel_rfl) (by kernel_rfl) (fun _ _ _ h => h) (by rfl) hHeld ?_
            try simp only [Act.put, List.setIfInBounds_toArray, List.set_cons_zero, List.set_cons_succ]
            refine offG 7 (some 46) (by kernel_rfl) (by kernel_rfl) (by kernel_rfl) (fun _ _ _ h => h) (by rfl) hHeld ?_
            try simp only [Act.put, List.setIfInBounds_toArray, List.set_cons_zero, List.set_cons_succ]
            refine offG 8 (some 47) (by kernel_rfl) (by kernel_rfl) (by kernel_rfl) (fun _ _ _ h => h) (by rfl) hHeld ?_
            try simp only [Act.put, List.setIfInBounds_toArray, List.set_cons_zero, List.set_cons_succ]
            refine offG 9 (some 48) (by kernel_rfl) (by kernel_rfl) (by kernel_rfl) (fun _ _ _ h => h) (by rfl) hHeld ?_
            try simp only [Act.put, List.setIfInBounds_toArray, List.set_cons_zero, List.set_cons_succ]
            refine offG 10 (some 49) (by kernel_rfl) (by kernel_rfl) (by kernel_rfl) (fun _ _ _ h => h) (by rfl) hHeld ?_
            try simp only [Act.put, List.setIfInBounds_toArray, List.set_cons_zero, List.set_cons_succ]
            refine offG 11 (some 50) (by kernel_rfl) (by kernel_rfl) (by kernel_rfl) (fun _ _ _ h => h) (by rfl) hHeld ?_
            try simp only [Act.put, List.setIfInBounds_toArray, List.set_cons_zero, List.set_cons_succ]
            refine offG 12 (some 51) (by kernel_rfl) (by kernel_rfl) (by kernel_rfl) (fun _ _ _ h => h) (by rfl) hHeld ?_
            try simp only [Act.put, List.setIfInBounds_toArray, List.set_cons_zero, List.set_cons_succ]
            refine offG 13 (some 52) (by kernel_rfl) (by kernel_rfl) (by kernel_rfl) (fun _ _ _ h => h) (by rfl) hHeld ?_
            try simp only [Act.put, List.setIfInBounds_toArray, List.set_cons_zero, List.set_cons_succ]
            refine onG 14 (some 53) (v := ?v33_) (by kernel_rfl) (by kernel_rfl) (by kernel_rfl) (fun _ _ _ h => h) (by rfl) hHeld ?hy33_ ?rest33_
            case hy33_ =>
              intro o ho; simp only [List.getElem?_toArray, List.getElem?_cons_succ, List.getElem?_cons_zero, Option.some.injEq] at ho; subst ho; intro w hSw; (try dsimp only at hSw)
              go_simp
              try with_reducible rfl
            case rest33_ =>
            try simp only [Act.put, List.setIfInBounds_toArray, List.set_cons_zero, List.set_cons_succ]
            refine onG 15 (some 2) (v := ?v34_) (by kernel_rfl) (by kernel_rfl) (by kernel_rfl) (fun _ _ _ h => h) (by rfl) hHeld ?hy34_ ?rest34_
            case hy34_ =>
              intro o ho; simp only [List.getElem?_toArray, List.getElem?_cons_succ, List.getElem?_cons_zero, Option.some.injEq] at ho; subst ho; intro w hSw; (try dsimp only at hSw)
              go_simp
              try with_reducible rfl
            case rest34_ =>
            try simp only [Act.put, List.setIfInBounds_toArray, List.set_cons_zero, List.set_cons_succ]
            refine wpAnyH_done (by kernel_rfl) ?_ _
            go_wp2_with fail
            go_ret
            exact ⟨by rw [HOK.out]; rfl, B5.out.drew⟩
          · have HS := hidH hs
            have HOK := hidH (show jobOk zs F C Wd D Wy R A Wi = (capA zs F Wd C == C) by unfold jobOk; rw [hs, hw, hl, decide_eq_true hc]; simp)
            clear hp hc hw hl hs
            unfold jobV
            unfold jobC at *
            go_enter Try.func47, Try.ntmps47
            go_wp2_with fail
            refine HPV.out.mono ?_; rintro e w2 ⟨rfl, rfl⟩
            rw [HP.out]
            go_wp2_with fail
            refine (HCT.out _).mono ?_; rintro e w2 ⟨rfl, rfl⟩
            go_wp2_with fail
            refine (sWay_any D Wy _).mono ?_; rintro e w2 ⟨rfl, rfl⟩
            rw [HW.out]
            go_wp2_with fail
            refine (sLayV_gives R A Wi _).mono ?_; rintro e w3 ⟨rfl, hb⟩
            rw [HL.out]
            have B3 := hidH (bThen BB.out hb)
            have J3 := hidH (heap_keep HJ.out hb)
            have HV3 := hidH (HV1.out.below hb)
            clear hb
            have c0 := job_cell J3.out 0 _ rfl
            have c1 := job_cell J3.out 1 _ rfl
            have c3 := job_cell J3.out 3 _ rfl
            go_wp2_with fail
            refine (sSetUp_any (.slice va zs.length vcap) zs F Wd _ _ _ HV3.out).mono ?_; rintro e w4 ⟨ev, rfl, hr, hb⟩
            rw [HS.out]
            obtain ⟨ea, ecap, rfl⟩ := hr.some
            generalize (setL zs F Wd).length = el at *
            have B5 := hidH (bMore (bThen B3.out hb) (.cells #[.slice ea el ecap] 62))
            have J5 := hidH (heap_more (heap_keep J3.out hb) (.cells #[.slice ea el ecap] 62))
            have HV5 := hidH ((HV3.out.below hb).below ((Below.refl _ w4).alloc (Nat.le_refl _) (.cells #[.slice ea el ecap] 62)))
            clear hb hr c0 c1 c3
            have J5d : (w4.alloc (.cells #[.slice ea el ecap] 62)).drew.heap[w.heap.size]? = _ := J5.out
            have d0 := job_cell J5d 0 _ rfl
            have d1 := job_cell J5d 1 _ rfl
            have d2 := job_cell J5d 2 _ rfl
            have d3 := job_cell J5d 3 _ rfl
            have d6 := job_cell J5d 6 _ rfl
            have d7 := job_cell J5d 7 _ rfl
            have d8 := job_cell J5d 8 _ rfl
            go_wp2_with fail
            refine wp_region_held_drew (S := fun w' => w'.cell? ⟨w.heap.size, 0, none⟩ = some (.slice va zs.length vcap) ∧ w'.cell? ⟨w.heap.size, 1, none⟩ = some (.int .i64 F) ∧ w'.cell? ⟨w.heap.size, 2, none⟩ = some (.int .i64 C) ∧ w'.cell? ⟨w.heap.size, 3, none⟩ = some (.int .i64 Wd) ∧ w'.cell? ⟨w.heap.size, 6, none⟩ = some (.int .i64 R) ∧ w'.cell? ⟨w.heap.size, 7, none⟩ = some (.int .i64 A) ∧ w'.cell? ⟨w.heap.size, 8, none⟩ = some (.int .i64 Wi)) (by kernel_rfl) ⟨d0, d1, d2, d3, d6, d7, d8⟩ (fun hHeld => ?_)
            try dsimp only
            refine onG 0 (some 39) (v := ?v35_) (by kernel_rfl) (by kernel_rfl) (by kernel_rfl) (fun _ _ _ h => h) (by rfl) hHeld ?hy35_ ?rest35_
            case hy35_ =>
              intro o ho; simp only [List.getElem?_toArray, List.getElem?_cons_zero, Option.some.injEq] at ho; subst ho; intro w hSw; (try dsimp only at hSw)
              go_simp
              try with_reducible rfl
            case rest35_ =>
            try simp only [Act.put, List.setIfInBounds_toArray, List.set_cons_zero, List.set_cons_succ]
            refine onG 1 (some 40) (v := ?v36_) (by kernel_rfl) (by kernel_rfl) (by kernel_rfl) (fun _ _ _ h => h) (by rfl) hHeld ?hy36_ ?rest36_
            case hy36_ =>
              intro o ho; simp only [List.getElem?_toArray, List.getElem?_cons_succ, List.getElem?_cons_zero, Option.some.injEq] at ho; subst ho; intro w hSw; (try dsimp only at hSw)
              go_simp
              try with_reducible rfl
            case rest36_ =>
            try simp only [Act.put, List.setIfInBounds_toArray, List.set_cons_zero, List.set_cons_succ]
            refine onG 2 (some 41) (v := ?v37_) (by kernel_rfl) (by kernel_rfl) (by kernel_rfl) (fun _ _ _ h => h) (by rfl) hHeld ?hy37_ ?rest37_
            case hy37_ =>
              intro o ho; simp only [List.getElem?_toArray, List.getElem?_cons_succ, List.getElem?_cons_zero, Option.some.injEq] at ho; subst ho; intro w hSw; (try dsimp only at hSw)
              go_simp
              try with_reducible rfl
            case rest37_ =>
            try simp only [Act.put, List.setIfInBounds_toArray, List.set_cons_zero, List.set_cons_succ]
            refine onG 3 (some 42) (v := ?v38_) (by kernel_rfl) (by kernel_rfl) (by kernel_rfl) (fun _ _ _ h => h) (by rfl) hHeld ?hy38_ ?rest38_
            case hy38_ =>
              intro o ho; simp only [List.getElem?_toArray, List.getElem?_cons_succ, List.getElem?_cons_zero, Option.some.injEq] at ho; subst ho; intro w hSw; (try dsimp only at hSw)
              go_simp
              try with_reducible rfl
            case rest38_ =>
            try simp only [Act.put, List.setIfInBounds_toArray, List.set_cons_zero, List.set_cons_succ]
            refine onG 4 (some 43) (v := ?v39_) (by kernel_rfl) (by kernel_rfl) (by kernel_rfl) (fun _ _ _ h => h) (by rfl) hHeld ?hy39_ ?rest39_
            case hy39_ =>
              intro o ho; simp only [List.getElem?_toArray, List.getElem?_cons_succ, List.getElem?_cons_zero, Option.some.injEq] at ho; subst ho; intro w hSw; (try dsimp only at hSw)
              go_simp
              try with_reducible rfl
            case rest39_ =>
            try simp only [Act.put, List.setIfInBounds_toArray, List.set_cons_zero, List.set_cons_succ]
            refine onG 5 (some 44) (v := ?v40_) (by kernel_rfl) (by kernel_rfl) (by kernel_rfl) (fun _ _ _ h => h) (by rfl) hHeld ?hy40_ ?rest40_
            case hy40_ =>
              intro o ho; simp only [List.getElem?_toArray, List.getElem?_cons_succ, List.getElem?_cons_zero, Option.some.injEq] at ho; subst ho; intro w hSw; (try dsimp only at hSw)
              go_simp
              try with_reducible rfl
            case rest40_ =>
            try simp only [Act.put, List.setIfInBounds_toArray, List.set_cons_zero, List.set_cons_succ]
            refine onG 6 (some 45) (v := ?v41_) (by kernel_rfl) (by kernel_rfl) (by kernel_rfl) (fun _ _ _ h => h) (by rfl) hHeld ?hy41_ ?rest41_
            case hy41_ =>
              intro o ho; simp only [List.getElem?_toArray, List.getElem?_cons_succ, List.getElem?_cons_zero, Option.some.injEq] at ho; subst ho; intro w hSw; (try dsimp only at hSw)
              go_simp
              try with_reducible rfl
            case rest41_ =>
            try simp only [Act.put, List.setIfInBounds_toArray, List.set_cons_zero, List.set_cons_succ]
            refine onG 7 (some 46) (v := ?v42_) (by kernel_rfl) (by kernel_rfl) (by kernel_rfl) (fun _ _ _ h => h) (by rfl) hHeld ?hy42_ ?rest42_
            case hy42_ =>
              intro o ho; simp only [List.getElem?_toArray, List.getElem?_cons_succ, List.getElem?_cons_zero, Option.some.injEq] at ho; subst ho; intro w hSw; (try dsimp only at hSw)
              go_simp
              try with_reducible rfl
            case rest42_ =>
            try simp only [Act.put, List.setIfInBounds_toArray, List.set_cons_zero, List.set_cons_succ]
            refine onG 8 (some 47) (v := ?v43_) (by kernel_rfl) (by kernel_rfl) (by kernel_rfl) (fun _ _ _ h => h) (by rfl) hHeld ?hy43_ ?rest43_
            case hy43_ =>
              intro o ho; simp only [List.getElem?_toArray, List.getElem?_cons_succ, List.getElem?_cons_zero, Option.some.injEq] at ho; subst ho; intro w hSw; (try dsimp only at hSw)
              go_simp
              try with_reducible rfl
            case rest43_ =>
            try simp only [Act.put, List.setIfInBounds_toArray, List.set_cons_zero, List.set_cons_succ]
            refine onG 9 (some 48) (v := ?v44_) (by kernel_rfl) (by kernel_rfl) (by kernel_rfl) (fun _ _ _ h => h) (by rfl) hHeld ?hy44_ ?rest44_
            case hy44_ =>
              intro o ho; simp only [List.getElem?_toArray, List.getElem?_cons_succ, List.getElem?_cons_zero, Option.some.injEq] at ho; subst ho; intro w hSw; (try dsimp only at hSw)
              go_simp
              try with_reducible rfl
            case rest44_ =>
            try simp only [Act.put, List.setIfInBounds_toArray, List.set_cons_zero, List.set_cons_succ]
            refine onG 11 (some 50) (v := ?v45_) (by kernel_rfl) (by kernel_rfl) (by kernel_rfl) (fun _ _ _ h => h) (by rfl) hHeld ?hy45_ ?rest45_
            case hy45_ =>
              intro o ho; simp only [List.getElem?_toArray, List.getElem?_cons_succ, List.getElem?_cons_zero, Option.some.injEq] at ho; subst ho; intro w hSw; (try dsimp only at hSw)
              go_simp
              try with_reducible rfl
            case rest45_ =>
            try simp only [Act.put, List.setIfInBounds_toArray, List.set_cons_zero, List.set_cons_succ]
            refine onG 12 (some 51) (v := ?v46_) (by kernel_rfl) (by kernel_rfl) (by kernel_rfl) (fun _ _ _ h => h) (by rfl) hHeld ?hy46_ ?rest46_
            case hy46_ =>
              intro o ho; simp only [List.getElem?_toArray, List.getElem?_cons_succ, List.getElem?_cons_zero, Option.some.injEq] at ho; subst ho; intro w hSw; (try dsimp only at hSw)
              go_simp
              try with_reducible rfl
            case rest46_ =>
            try simp only [Act.put, List.setIfInBounds_toArray, List.set_cons_zero, List.set_cons_succ]
            refine callG 10 (by kernel_rfl) ?_
            intro o ho; simp only [List.getElem?_toArray, List.getElem?_cons_succ, List.getElem?_cons_zero, Option.some.injEq] at ho; subst ho; intro K hK
            go_simp
            go_at_call 65
            (with_reducible refine (sCapacity_any (.slice va zs.length vcap) zs F Wd C _ _ _ (HV5.out.below (Below.refl _ _).drew)).mono ?_)
            rintro e w7 ⟨rfl, hb⟩
            (have B7 := hidH (B5.out.drew.trans (hb.mono B5.out.size)))
            (have J7 := hidH (heap_keep (show (w4.alloc (.cells #[.slice ea el ecap] 62)).drew.heap[w.heap.size]? = _ from J5.out) hb))
            (have f0 := job_cell J7.out 0 _ rfl)
            (have f1 := job_cell J7.out 1 _ rfl)
            (have f2 := job_cell J7.out 2 _ rfl)
            (have f3 := job_cell J7.out 3 _ rfl)
            (have f6 := job_cell J7.out 6 _ rfl)
            (have f7 := job_cell J7.out 7 _ rfl)
            (have f8 := job_cell J7.out 8 _ rfl)
            (clear hb hHeld)
            go_wp2_with fail
            refine hK.out _ _ ?_ (fun hHeld => ?_)
            · exact ⟨f0, f1, f2, f3, f6, f7, f8⟩
            clear hK K
            try simp only [Act.put, List.setIfInBounds_toArray, List.set_cons_zero, List.set_cons_succ]
            refine onG 13 (some 52) (v := ?v47_) (by kernel_rfl) (by kernel_rfl) (by kernel_rfl) (fun _ _ _ h => h) (by rfl) hHeld ?hy47_ ?rest47_
            case hy47_ =>
              intro o ho; simp only [List.getElem?_toArray, List.getElem?_cons_succ, List.getElem?_cons_zero, Option.some.injEq] at ho; subst ho; intro w hSw; (try dsimp only at hSw)
              go_simp
              try with_reducible rfl
            case rest47_ =>
            try simp only [Act.put, List.setIfInBounds_toArray, List.set_cons_zero, List.set_cons_succ]
            refine onG 14 (some 53) (v := ?v48_) (by kernel_rfl) (by kernel_rfl) (by kernel_rfl) (fun _ _ _ h => h) (by rfl) hHeld ?hy48_ ?rest48_
            case hy48_ =>
              intro o ho; simp only [List.getElem?_toArray, List.getElem?_cons_succ, List.getElem?_cons_zero, Option.some.injEq] at ho; subst ho; intro w hSw; (try dsimp only at hSw)
              go_simp
              try with_reducible rfl
            case rest48_ =>
            try simp only [Act.put, List.setIfInBounds_toArray, List.set_cons_zero, List.set_cons_succ]
            refine onG 15 (some 2) (v := ?v49_) (by kernel_rfl) (by kernel_rfl) (by kernel_rfl) (fun _ _ _ h => h) (by rfl) hHeld ?hy49_ ?rest49_
            case hy49_ =>
              intro o ho; simp only [List.getElem?_toArray, List.getElem?_cons_succ, List.getElem?_cons_zero, Option.some.injEq] at ho; subst ho; intro w hSw; (try dsimp only at hSw)
              go_simp
              try with_reducible rfl
            case rest49_ =>
            try simp only [Act.put, List.setIfInBounds_toArray, List.set_cons_zero, List.set_cons_succ]
            refine wpAnyH_done (by kernel_rfl) ?_ _
            go_wp2_with fail
            go_ret
            exact ⟨by rw [HOK.out]; rfl, B7.out⟩
set_option maxHeartbeats 800000 in
theorem sJobTime_any (v : Value) (zs : List Int) (F C Wd D Wy R A Wi : Int) (w : World) (lo hi : Nat) (hv : Lies w lo hi v zs) : Calls Try.prog 24 #[jobV v F C Wd D Wy R A Wi] w (Gives (.int .i64 (jobT zs F C Wd D Wy R A Wi)) w) := by
  have HJV := hidH (fun W (h : Lies W 0 W.heap.size v zs) => sJobValid_any v zs F C Wd D Wy R A Wi W _ _ h)
  have HV := hidH hv.top
  obtain ⟨va, vcap, rfl, hvc, hvm, _, _⟩ := hv
  unfold maxLen at hvm
  have BB := hidH (bMore (Below.refl w.heap.size w) (.cells (jobC (.slice va zs.length vcap) F C Wd D Wy R A Wi) 38))
  have HV1 := hidH (HV.out.below BB.out)
  have HJ := hidH (show (w.alloc (.cells (jobC (.slice va zs.length vcap) F C Wd D Wy R A Wi) 38)).heap[w.heap.size]? = some (.cells (jobC (.slice va zs.length vcap) F C Wd D Wy R A Wi) 38 (0, 0)) from heap_alloc_new w _)
  have SZ := hidH (job_size (.slice va zs.length vcap) F C Wd D Wy R A Wi)
  have HJ1 := hidH (HJV.out _ HV1.out.top)
  unfold jobT
  unfold jobV at *
  unfold jobC at *
  cases hj : jobOk zs F C Wd D Wy R A Wi
  · have HOK := hidH hj
    clear hj
    go_enter Try.func24, Try.ntmps24
    go_wp2_with (refine wpList_load_row rfl 38 _ rfl w.heap.size rfl 38 _ (0, 0) _ HJ.out Try.underlying38 rfl SZ.out ?_)
    refine HJ1.out.mono ?_; rintro e w1 ⟨rfl, hb⟩
    rw [HOK.out]
    have B1 := hidH (bThen BB.out hb)
    clear hb
    go_wp2_with fail
    go_ret
    exact ⟨rfl, B1.out⟩
  · have HOK := hidH hj
    clear hj
    go_enter Try.func24, Try.ntmps24
    go_wp2_with (refine wpList_load_row rfl 38 _ rfl w.heap.size rfl 38 _ (0, 0) _ HJ.out Try.underlying38 rfl SZ.out ?_)
    refine HJ1.out.mono ?_; rintro e w1 ⟨rfl, hb⟩
    rw [HOK.out]
    have B1 := hidH (bThen BB.out hb)
    have J1 := hidH (heap_keep HJ.out hb)
    have c0 := job_cell J1.out 0 _ rfl
    have c2 := job_cell J1.out 2 _ rfl
    have c3 := job_cell J1.out 3 _ rfl
    clear hb
    go_wp2_with fail
    go_ret
    exact ⟨rfl, B1.out⟩
end Go.Proofs.Ytcinhmfjnjecdaa
