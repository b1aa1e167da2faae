/-
  The walk of the law FnGreedyFewest. No conditions but that slices fit in memory.
-/
import Derived.Test.YtgnoclnenhmakaaPlfR
import Derived.Test.YtgnoclnenhmakaaPlfD
import Derived.Test.YtgnoclnenhmakaaHeld
namespace Go.Proofs.Ytgnoclnenhmakaa
set_option maxRecDepth 4000
open Go.RowKit
set_option maxHeartbeats 3200000 in
theorem dePlans_yes (v u : Value) (cs : List (Int × List Int)) (w : World) (h1 h2 : Nat) (hv : LiesSg w h1 v cs) (hu : LiesSg w h2 u cs) (hn : cs.length ≤ 1048576) : Calls Try.prog 14 #[v, u] w (Gives (.bool true) w) := by
  have HV := hidH hv
  have HU := hidH hu
  obtain ⟨a, cap, rfl, hlc, hcm⟩ := hv.len
  obtain ⟨a2, cap2, rfl, hlc2, hcm2⟩ := hu.len
  unfold maxLen at hcm hcm2
  clear hv hu
  go_enter Try.func14, Try.ntmps14
  go_wp2
  go_loopw [5] (fun i wr => ∃ k : Nat, k ≤ cs.length ∧ i = .int .i64 k ∧ Below w.heap.size w wr) (fun i _ => cs.length - (intOf i).toNat)
  case atStart => exact ⟨0, Nat.zero_le _, rfl, Below.refl _ _⟩
  case round =>
    obtain ⟨k, hk, rfl, hb⟩ := hrel
    have Hb := hidH hb
    clear hb
    by_cases hlt : k < cs.length
    · obtain ⟨b, off, cc1, e, _, _, _, hcl⟩ := HV.out.addr (by omega)
      injection e with e1 e2 e3
      subst e1; subst e3
      obtain ⟨b2, off2, cc2, e, _, _, _, hcl2⟩ := HU.out.addr (by omega)
      injection e with e1 e2 e3
      subst e1; subst e3
      obtain ⟨x, hx⟩ : ∃ x, cs[k]? = some x := ⟨cs[k], List.getElem?_eq_getElem hlt⟩
      obtain ⟨c, zs⟩ := x
      obtain ⟨p, q0, q1, q2⟩ := hcl k c zs hx
      obtain ⟨p2, r0, r1, r2⟩ := hcl2 k c zs hx
      obtain ⟨pa, pc, rfl⟩ := q2.some
      obtain ⟨qa, qc, rfl⟩ := r2.some
      have c0 : wr.drew.cell? ⟨b, off + k * 2, none⟩ = some (.int .i64 c) := by show wr.cell? _ = _; rw [Hb.out.cell (p := ⟨b, off + k * 2, none⟩) (cell_blk _ _ _ q0)]; exact q0
      have c1 : wr.drew.cell? ⟨b, off + k * 2 + 1, none⟩ = some (.slice pa zs.length pc) := by show wr.cell? _ = _; rw [Hb.out.cell (p := ⟨b, off + k * 2 + 1, none⟩) (cell_blk _ _ _ q1)]; exact q1
      have d0 : wr.drew.cell? ⟨b2, off2 + k * 2, none⟩ = some (.int .i64 c) := by show wr.cell? _ = _; rw [Hb.out.cell (p := ⟨b2, off2 + k * 2, none⟩) (cell_blk _ _ _ r0)]; exact r0
      have d1 : wr.drew.cell? ⟨b2, off2 + k * 2 + 1, none⟩ = some (.slice qa zs.length qc) := by show wr.cell? _ = _; rw [Hb.out.cell (p := ⟨b2, off2 + k * 2 + 1, none⟩) (cell_blk _ _ _ r1)]; exact r1
      have HP := hidH (q2.below Hb.out)
      have HP2 := hidH (r2.below Hb.out)
      have HE := hidH (fun W (hb : Below wr.heap.size wr W) => deInts_yes _ _ zs W _ _ _ _ (HP.out.below hb) (HP2.out.below hb))
      clear hcl hcl2 q0 q1 q2 r0 r1 r2 hx
      go_wp2_with fail
      refine wp_region_held_drew (S := fun w' => w'.cell? ⟨b, off + k * 2, none⟩ = some (.int .i64 c) ∧ w'.cell? ⟨b, off + k * 2 + 1, none⟩ = some (.slice pa zs.length pc) ∧ w'.cell? ⟨b2, off2 + k * 2, none⟩ = some (.int .i64 c) ∧ w'.cell? ⟨b2, off2 + k * 2 + 1, none⟩ = some (.slice qa zs.length qc)) (by kernel_rfl) ⟨c0, c1, d0, d1⟩ (fun hHeld => ?_)
      try dsimp only
      refine onG 0 (some 17) (v := ?v31_) (by kernel_rfl) (by kernel_rfl) (by kernel_rfl) (fun _ _ _ h => h) (by rfl) hHeld ?hy31_ ?rest31_
      case hy31_ =>
        intro o ho; simp only [List.getElem?_toArray, List.getElem?_cons_zero, Option.some.injEq] at ho; subst ho; intro w hSw; (try dsimp only at hSw)
        go_simp
        try with_reducible rfl
      case rest31_ =>
      try simp only [Act.put, List.setIfInBounds_toArray, List.set_cons_zero, List.set_cons_succ]
      refine onG 1 (some 18) (v := ?v32_) (by kernel_rfl) (by kernel_rfl) (by kernel_rfl) (fun _ _ _ h => h) (by rfl) hHeld ?hy32_ ?rest32_
      case hy32_ =>
        intro o ho; simp only [List.getElem?_toArray, List.getElem?_cons_succ, List.getElem?_cons_zero, Option.some.injEq] at ho; subst ho; intro w hSw; (try dsimp only at hSw)
        go_simp
        try with_reducible rfl
      case rest32_ =>
      try simp only [Act.put, List.setIfInBounds_toArray, List.set_cons_zero, List.set_cons_succ]
      refine onG 2 (some 19) (v := ?v33_) (by kernel_rfl) (by kernel_rfl) (by kernel_rfl) (fun _ _ _ h => h) (by rfl) hHeld ?hy33_ ?rest33_
      case hy33_ =>
        intro o ho; simp only [List.getElem?_toArray, List.getElem?_cons_succ, List.getElem?_cons_zero, Option.some.injEq] at ho; subst ho; intro w hSw; (try dsimp only at hSw)
        go_simp
        try with_reducible rfl
      case rest33_ =>
      try simp only [Act.put, List.setIfInBounds_toArray, List.set_cons_zero, List.set_cons_succ]
      refine onG 3 (some 20) (v := ?v34_) (by kernel_rfl) (by kernel_rfl) (by kernel_rfl) (fun _ _ _ h => h) (by rfl) hHeld ?hy34_ ?rest34_
      case hy34_ =>
        intro o ho; simp only [List.getElem?_toArray, List.getElem?_cons_succ, List.getElem?_cons_zero, Option.some.injEq] at ho; subst ho; intro w hSw; (try dsimp only at hSw)
        go_simp
        try with_reducible rfl
      case rest34_ =>
      try simp only [Act.put, List.setIfInBounds_toArray, List.set_cons_zero, List.set_cons_succ]
      refine onG 4 (some 21) (v := ?v35_) (by kernel_rfl) (by kernel_rfl) (by kernel_rfl) (fun _ _ _ h => h) (by rfl) hHeld ?hy35_ ?rest35_
      case hy35_ =>
        intro o ho; simp only [List.getElem?_toArray, List.getElem?_cons_succ, List.getElem?_cons_zero, Option.some.injEq] at ho; subst ho; intro w hSw; (try dsimp only at hSw)
        go_simp
        try with_reducible rfl
      case rest35_ =>
      try simp only [Act.put, List.setIfInBounds_toArray, List.set_cons_zero, List.set_cons_succ]
      refine onG 5 (some 22) (v := ?v36_) (by kernel_rfl) (by kernel_rfl) (by kernel_rfl) (fun _ _ _ h => h) (by rfl) hHeld ?hy36_ ?rest36_
      case hy36_ =>
        intro o ho; simp only [List.getElem?_toArray, List.getElem?_cons_succ, List.getElem?_cons_zero, Option.some.injEq] at ho; subst ho; intro w hSw; (try dsimp only at hSw)
        go_simp
        try with_reducible rfl
      case rest36_ =>
      try simp only [Act.put, List.setIfInBounds_toArray, List.set_cons_zero, List.set_cons_succ]
      refine onG 6 (some 23) (v := ?v37_) (by kernel_rfl) (by kernel_rfl) (by kernel_rfl) (fun _ _ _ h => h) (by rfl) hHeld ?hy37_ ?rest37_
      case hy37_ =>
        intro o ho; simp only [List.getElem?_toArray, List.getElem?_cons_succ, List.getElem?_cons_zero, Option.some.injEq] at ho; subst ho; intro w hSw; (try dsimp only at hSw)
        go_simp
        try with_reducible rfl
      case rest37_ =>
      try simp only [Act.put, List.setIfInBounds_toArray, List.set_cons_zero, List.set_cons_succ]
      refine onG 7 (some 24) (v := ?v38_) (by kernel_rfl) (by kernel_rfl) (by kernel_rfl) (fun _ _ _ h => h) (by rfl) hHeld ?hy38_ ?rest38_
      case hy38_ =>
        intro o ho; simp only [List.getElem?_toArray, List.getElem?_cons_succ, List.getElem?_cons_zero, Option.some.injEq] at ho; subst ho; intro w hSw; (try dsimp only at hSw)
        go_simp
        try with_reducible rfl
      case rest38_ =>
      try simp only [Act.put, List.setIfInBounds_toArray, List.set_cons_zero, List.set_cons_succ]
      refine onG 8 (some 25) (v := ?v39_) (by kernel_rfl) (by kernel_rfl) (by kernel_rfl) (fun _ _ _ h => h) (by rfl) hHeld ?hy39_ ?rest39_
      case hy39_ =>
        intro o ho; simp only [List.getElem?_toArray, List.getElem?_cons_succ, List.getElem?_cons_zero, Option.some.injEq] at ho; subst ho; intro w hSw; (try dsimp only at hSw)
        go_simp
        try with_reducible rfl
      case rest39_ =>
      try simp only [Act.put, List.setIfInBounds_toArray, List.set_cons_zero, List.set_cons_succ]
      refine onG 9 (some 26) (v := ?v40_) (by kernel_rfl) (by kernel_rfl) (by kernel_rfl) (fun _ _ _ h => h) (by rfl) hHeld ?hy40_ ?rest40_
      case hy40_ =>
        intro o ho; simp only [List.getElem?_toArray, List.getElem?_cons_succ, List.getElem?_cons_zero, Option.some.injEq] at ho; subst ho; intro w hSw; (try dsimp only at hSw)
        go_simp
        try with_reducible rfl
      case rest40_ =>
      try simp only [Act.put, List.setIfInBounds_toArray, List.set_cons_zero, List.set_cons_succ]
      refine onG 10 (some 27) (v := .bool false) (by kernel_rfl) (by kernel_rfl) (by kernel_rfl) (fun _ _ _ h => h) (by rfl) hHeld ?hy41_ ?rest41_
      case hy41_ =>
        intro o ho; simp only [List.getElem?_toArray, List.getElem?_cons_succ, List.getElem?_cons_zero, Option.some.injEq] at ho; subst ho; intro w hSw; (try dsimp only at hSw)
        go_simp
        all_goals (first | done | simp)
      case rest41_ =>
      try simp only [Act.put, List.setIfInBounds_toArray, List.set_cons_zero, List.set_cons_succ]
      refine onG 11 (some 28) (v := .bool false) (by kernel_rfl) (by kernel_rfl) (by kernel_rfl) (fun _ _ _ h => h) (by rfl) hHeld ?hy42_ ?rest42_
      case hy42_ =>
        intro o ho; simp only [List.getElem?_toArray, List.getElem?_cons_succ, List.getElem?_cons_zero, Option.some.injEq] at ho; subst ho; intro w hSw; (try dsimp only at hSw)
        go_simp
        all_goals (first | done | simp)
      case rest42_ =>
      try simp only [Act.put, List.setIfInBounds_toArray, List.set_cons_zero, List.set_cons_succ]
      refine onG 12 (some 29) (v := ?v43_) (by kernel_rfl) (by kernel_rfl) (by kernel_rfl) (fun _ _ _ h => h) (by rfl) hHeld ?hy43_ ?rest43_
      case hy43_ =>
        intro o ho; simp only [List.getElem?_toArray, List.getElem?_cons_succ, List.getElem?_cons_zero, Option.some.injEq] at ho; subst ho; intro w hSw; (try dsimp only at hSw)
        go_simp
        try with_reducible rfl
      case rest43_ =>
      try simp only [Act.put, List.setIfInBounds_toArray, List.set_cons_zero, List.set_cons_succ]
      refine onG 13 (some 30) (v := ?v44_) (by kernel_rfl) (by kernel_rfl) (by kernel_rfl) (fun _ _ _ h => h) (by rfl) hHeld ?hy44_ ?rest44_
      case hy44_ =>
        intro o ho; simp only [List.getElem?_toArray, List.getElem?_cons_succ, List.getElem?_cons_zero, Option.some.injEq] at ho; subst ho; intro w hSw; (try dsimp only at hSw)
        go_simp
        try with_reducible rfl
      case rest44_ =>
      try simp only [Act.put, List.setIfInBounds_toArray, List.set_cons_zero, List.set_cons_succ]
      refine onG 14 (some 31) (v := ?v45_) (by kernel_rfl) (by kernel_rfl) (by kernel_rfl) (fun _ _ _ h => h) (by rfl) hHeld ?hy45_ ?rest45_
      case hy45_ =>
        intro o ho; simp only [List.getElem?_toArray, List.getElem?_cons_succ, List.getElem?_cons_zero, Option.some.injEq] at ho; subst ho; intro w hSw; (try dsimp only at hSw)
        go_simp
        try with_reducible rfl
      case rest45_ =>
      try simp only [Act.put, List.setIfInBounds_toArray, List.set_cons_zero, List.set_cons_succ]
      refine onG 15 (some 32) (v := ?v46_) (by kernel_rfl) (by kernel_rfl) (by kernel_rfl) (fun _ _ _ h => h) (by rfl) hHeld ?hy46_ ?rest46_
      case hy46_ =>
        intro o ho; simp only [List.getElem?_toArray, List.getElem?_cons_succ, List.getElem?_cons_zero, Option.some.injEq] at ho; subst ho; intro w hSw; (try dsimp only at hSw)
        go_simp
        try with_reducible rfl
      case rest46_ =>
      try simp only [Act.put, List.setIfInBounds_toArray, List.set_cons_zero, List.set_cons_succ]
      refine onG 16 (some 33) (v := ?v47_) (by kernel_rfl) (by kernel_rfl) (by kernel_rfl) (fun _ _ _ h => h) (by rfl) hHeld ?hy47_ ?rest47_
      case hy47_ =>
        intro o ho; simp only [List.getElem?_toArray, List.getElem?_cons_succ, List.getElem?_cons_zero, Option.some.injEq] at ho; subst ho; intro w hSw; (try dsimp only at hSw)
        go_simp
        try with_reducible rfl
      case rest47_ =>
      try simp only [Act.put, List.setIfInBounds_toArray, List.set_cons_zero, List.set_cons_succ]
      refine onG 17 (some 34) (v := ?v48_) (by kernel_rfl) (by kernel_rfl) (by kernel_rfl) (fun _ _ _ h => h) (by rfl) hHeld ?hy48_ ?rest48_
      case hy48_ =>
        intro o ho; simp only [List.getElem?_toArray, List.getElem?_cons_succ, List.getElem?_cons_zero, Option.some.injEq] at ho; subst ho; intro w hSw; (try dsimp only at hSw)
        go_simp
        try with_reducible rfl
      case rest48_ =>
      try simp only [Act.put, List.setIfInBounds_toArray, List.set_cons_zero, List.set_cons_succ]
      refine onG 18 (some 35) (v := ?v49_) (by kernel_rfl) (by kernel_rfl) (by kernel_rfl) (fun _ _ _ h => h) (by rfl) hHeld ?hy49_ ?rest49_
      case hy49_ =>
        intro o ho; simp only [List.getElem?_toArray, List.getElem?_cons_succ, List.getElem?_cons_zero, Option.some.injEq] at ho; subst ho; intro w hSw; (try dsimp only at hSw)
        go_simp
        try with_reducible rfl
      case rest49_ =>
      try simp only [Act.put, List.setIfInBounds_toArray, List.set_cons_zero, List.set_cons_succ]
      refine onG 19 (some 36) (v := ?v50_) (by kernel_rfl) (by kernel_rfl) (by kernel_rfl) (fun _ _ _ h => h) (by rfl) hHeld ?hy50_ ?rest50_
      case hy50_ =>
        intro o ho; simp only [List.getElem?_toArray, List.getElem?_cons_succ, List.getElem?_cons_zero, Option.some.injEq] at ho; subst ho; intro w hSw; (try dsimp only at hSw)
        go_simp
        try with_reducible rfl
      case rest50_ =>
      try simp only [Act.put, List.setIfInBounds_toArray, List.set_cons_zero, List.set_cons_succ]
      refine onG 20 (some 37) (v := ?v51_) (by kernel_rfl) (by kernel_rfl) (by kernel_rfl) (fun _ _ _ h => h) (by rfl) hHeld ?hy51_ ?rest51_
      case hy51_ =>
        intro o ho; simp only [List.getElem?_toArray, List.getElem?_cons_succ, List.getElem?_cons_zero, Option.some.injEq] at ho; subst ho; intro w hSw; (try dsimp only at hSw)
        go_simp
        try with_reducible rfl
      case rest51_ =>
      try simp only [Act.put, List.setIfInBounds_toArray, List.set_cons_zero, List.set_cons_succ]
      refine onG 21 (some 38) (v := ?v52_) (by kernel_rfl) (by kernel_rfl) (by kernel_rfl) (fun _ _ _ h => h) (by rfl) hHeld ?hy52_ ?rest52_
      case hy52_ =>
        intro o ho; simp only [List.getElem?_toArray, List.getElem?_cons_succ, List.getElem?_cons_zero, Option.some.injEq] at ho; subst ho; intro w hSw; (try dsimp only at hSw)
        go_simp
        try with_reducible rfl
      case rest52_ =>
      try simp only [Act.put, List.setIfInBounds_toArray, List.set_cons_zero, List.set_cons_succ]
      refine callG 22 (by kernel_rfl) ?_
      intro o ho; simp only [List.getElem?_toArray, List.getElem?_cons_succ, List.getElem?_cons_zero, Option.some.injEq] at ho; subst ho; intro K hK
      go_simp
      go_at_call 19
      (with_reducible refine (HE.out _ ((Below.refl _ wr).drew)).mono ?_)
      rintro e w8 ⟨rfl, hb⟩
      (have HB8 := hidH ((Below.refl wr.heap.size wr).drew.trans (hb.mono (Nat.le_refl _))))
      (have g0 := (hb.cell (p := ⟨b, off + k * 2, none⟩) (cell_blk _ _ _ c0)).trans c0)
      (have g1 := (hb.cell (p := ⟨b, off + k * 2 + 1, none⟩) (cell_blk _ _ _ c1)).trans c1)
      (have g2 := (hb.cell (p := ⟨b2, off2 + k * 2, none⟩) (cell_blk _ _ _ d0)).trans d0)
      (have g3 := (hb.cell (p := ⟨b2, off2 + k * 2 + 1, none⟩) (cell_blk _ _ _ d1)).trans d1)
      (clear hb hHeld)
      go_wp2_with fail
      refine hK.out _ _ ?_ (fun hHeld => ?_)
      · exact ⟨g0, g1, g2, g3⟩
      clear hK K
      try simp only [Act.put, List.setIfInBounds_toArray, List.set_cons_zero, List.set_cons_succ]
      refine onG 23 (some 40) (v := ?v53_) (by kernel_rfl) (by kernel_rfl) (by kernel_rfl) (fun _ _ _ h => h) (by rfl) hHeld ?hy53_ ?rest53_
      case hy53_ =>
        intro o ho; simp only [List.getElem?_toArray, List.getElem?_cons_succ, List.getElem?_cons_zero, Option.some.injEq] at ho; subst ho; intro w hSw; (try dsimp only at hSw)
        go_simp
        try with_reducible rfl
      case rest53_ =>
      try simp only [Act.put, List.setIfInBounds_toArray, List.set_cons_zero, List.set_cons_succ]
      refine onG 24 (some 41) (v := ?v54_) (by kernel_rfl) (by kernel_rfl) (by kernel_rfl) (fun _ _ _ h => h) (by rfl) hHeld ?hy54_ ?rest54_
      case hy54_ =>
        intro o ho; simp only [List.getElem?_toArray, List.getElem?_cons_succ, List.getElem?_cons_zero, Option.some.injEq] at ho; subst ho; intro w hSw; (try dsimp only at hSw)
        go_simp
        try with_reducible rfl
      case rest54_ =>
      try simp only [Act.put, List.setIfInBounds_toArray, List.set_cons_zero, List.set_cons_succ]
      refine wpAnyH_done (by kernel_rfl) ?_ _
      go_wp2_with fail
      go_roundw
      case rel => exact ⟨k + 1, by omega, by go_num, Hb.out.trans (HB8.out.mono Hb.out.size)⟩
      case measure => simp [intOf]; omega
    · obtain rfl : k = cs.length := by omega
      go_wp2
      go_ret
      exact ⟨rfl, Hb.out⟩
end Go.Proofs.Ytgnoclnenhmakaa
