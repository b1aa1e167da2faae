/-
  PlanValid and PlanLength, and the model's values of a plan. No conditions but that slices fit in memory.
-/
import Derived.Test.YteacpfejjphabaaPlnE
import Derived.Deep.AppendLies
namespace Go.Proofs.Yteacpfejjphabaa
set_option maxRecDepth 4000
open Go.RowKit
theorem planValid_any (v : Value) (cs : List (Int × List Int)) (w : World) (h1 : Nat) (hv : LiesSg w h1 v cs) (hn : cs.length ≤ 1048576) : Calls Try.prog 11 #[v] w (Gives (.bool (planOk cs)) w) := by
  have HV := hidH (planValues_any v cs w h1 hv hn)
  go_enter Try.func11, Try.ntmps11
  go_wp2_with fail
  refine HV.out.mono ?_; rintro e w1 ⟨u, rfl, hr, hb⟩
  have HB := hidH hb
  clear hr hb
  go_wp2_with fail
  go_ret
  exact ⟨rfl, HB.out⟩
def plenA (cs : List (Int × List Int)) : Int := if planOk cs then (planL cs).length else -1
theorem planLength_any (v : Value) (cs : List (Int × List Int)) (w : World) (h1 : Nat) (hv : LiesSg w h1 v cs) (hn : cs.length ≤ 1048576) : Calls Try.prog 14 #[v] w (Gives (.int .i64 (plenA cs)) w) := by
  have HV := hidH (planValues_any v cs w h1 hv hn)
  unfold plenA
  have HA := hidH (show planOk cs = true → planA cs = planL cs from fun h => if_pos h)
  cases hok : planOk cs
  · rw [hok] at HV
    clear hok
    go_enter Try.func14, Try.ntmps14
    go_wp2_with fail
    refine HV.out.mono ?_; rintro e w1 ⟨u, rfl, hr, hb⟩
    have HB := hidH hb
    clear hr hb
    go_wp2_with fail
    go_ret
    exact ⟨rfl, HB.out⟩
  · have HE := hidH (HA.out hok)
    rw [hok, HE.out] at HV
    clear hok HA
    go_enter Try.func14, Try.ntmps14
    go_wp2_with fail
    refine HV.out.mono ?_; rintro e w1 ⟨u, rfl, hr, hb⟩
    have HB := hidH hb
    obtain ⟨ua, uc, rfl⟩ := hr.some
    clear hr hb
    go_wp2_with fail
    go_ret
    exact ⟨rfl, HB.out⟩
theorem sPlanLength_any (v : Value) (cs : List (Int × List Int)) (w : World) (h1 : Nat) (hv : LiesSg w h1 v cs) (hn : cs.length ≤ 1048576) : Calls Try.prog 13 #[v] w (Gives (.int .i64 (plenA cs)) w) := by
  have HV := hidH (sPlanValid_any v cs w h1 hv hn)
  have HL := hidH (fun W (hb : Below w.heap.size w W) => sPlanLen_any v cs W h1 (hv.below hb) hn)
  unfold plenA
  cases hok : planOk cs
  · rw [hok] at HV
    clear hok
    go_enter Try.func13, Try.ntmps13
    go_wp2_with fail
    refine HV.out.mono ?_; rintro e w1 ⟨rfl, hb⟩
    have HB := hidH hb
    clear hb
    go_wp2_with fail
    go_ret
    exact ⟨rfl, HB.out⟩
  · have HE := hidH (show lenM cs = ((planL cs).length : Int) by rw [lenM, (planOk_parts hok).2.2.2.1, planL_tot]; rfl)
    rw [hok] at HV
    clear hok
    go_enter Try.func13, Try.ntmps13
    go_wp2_with fail
    refine HV.out.mono ?_; rintro e w1 ⟨rfl, hb⟩
    have HB := hidH hb
    clear hb
    go_wp2_with fail
    refine (HL.out _ HB.out).mono ?_; rintro e w2 ⟨rfl, hb⟩
    rw [HE.out]
    have HB2 := hidH (bThen HB.out hb)
    clear hb
    go_wp2_with fail
    go_ret
    exact ⟨rfl, HB2.out⟩
set_option maxHeartbeats 1600000 in
theorem l5Values_any (v : Value) (cs : List (Int × List Int)) (w : World) (h1 : Nat) (hv : LiesSg w h1 v cs) (hok : planOk cs = true) : Calls Try.prog 33 #[v] w (NewRow (planL cs) w) := by
  have HV := hidH hv
  obtain ⟨a, cap, rfl, hlc, hcm⟩ := hv.len
  unfold maxLen at hcm
  obtain ⟨g1, g2, g3, g4, g5⟩ := planOk_parts hok
  have HALL := hidH g3
  have h60 : (planL cs).length ≤ 60 := by rw [planL_tot]; exact g5
  have H60 := hidH (fun k => Nat.le_trans (planL_take cs k) h60)
  clear hv hok g3 g4 g5 h60
  obtain ⟨i0, hi0, hz0, hz1, hz2⟩ := info_parts infoInt
  have HO := hidH (World.ownsRow_made (base := w.heap.size) (e := 3) (size := 1) w #[] 0 (Nat.le_refl _) (Nat.zero_le _) rfl)
  go_enter Try.func33, Try.ntmps33
  go_wp2_with fail
  go_loopw [3, 4] (fun o i wr => ∃ (k : Nat) (ov : Value), k ≤ cs.length ∧ i = .int .i64 k ∧ ov = o ∧ wr.ownsRow w.heap.size 3 1 ov (planL (cs.take k)).length (ints (planL (cs.take k))) ∧ Below w.heap.size w wr) (fun _ i _ => cs.length - (intOf i).toNat)
  case atStart => exact ⟨0, _, Nat.zero_le _, rfl, rfl, HO.out, (Below.refl _ _).alloc (Nat.le_refl _) _⟩
  case round =>
    obtain ⟨k, ov, hk, rfl, rfl, hown, hb⟩ := hrel
    have HW := hidH hown
    have HB := hidH hb
    clear hown hb
    by_cases hlt : k < cs.length
    · obtain ⟨b, off, cc1, e, _, _, _, hcl⟩ := HV.out.addr (by omega)
      injection e with e1 e2 e3
      subst e1; subst e3
      obtain ⟨x, hx⟩ : ∃ x, cs[k]? = some x := ⟨cs[k], List.getElem?_eq_getElem hlt⟩
      obtain ⟨c, zs⟩ := x
      obtain ⟨p, q0, q1, q2⟩ := hcl k c zs hx
      have c0 : wr.cell? ⟨b, off + k * 2, none⟩ = some (.int .i64 c) := by rw [HB.out.cell (p := ⟨b, off + k * 2, none⟩) (cell_blk _ _ _ q0)]; exact q0
      have c1 : wr.cell? ⟨b, off + k * 2 + 1, none⟩ = some p := by rw [HB.out.cell (p := ⟨b, off + k * 2 + 1, none⟩) (cell_blk _ _ _ q1)]; exact q1
      have HP := hidH (q2.below HB.out)
      have HX := hidH hx
      obtain ⟨pa0, pc0, rfl⟩ := q2.some
      clear hcl q0 q1 q2 hx
      have HSN := hidH (planL_snoc cs k (c, zs) HX.out)
      have h60 : (planL (cs.take k)).length ≤ 60 := H60.out k
      have ⟨hp, d1, d2, ht⟩ := segOk_parts (List.all_eq_true.1 HALL.out (c, zs) (List.mem_of_getElem? HX.out))
      have d1 : (1 : Int) ≤ c := d1
      have d2 : c ≤ 60 := d2
      have hp : polyOk zs = true := hp
      obtain ⟨m, rfl⟩ := Int.eq_ofNat_of_zero_le (show 0 ≤ c by omega)
      have HSM := hidH (polyOk_small zs hp).2
      have HVV := hidH (fun W (hl : Lies W 0 h1 (.slice pa0 zs.length pc0) zs) => sValues_any (.slice pa0 zs.length pc0) zs 0 1 m W 0 h1 hl HSM.out (by omega) (by omega) (fun i hi => by omega))
      have HVE := hidH (show segV ((m : Int), zs) = valsS zs 0 1 m by rw [valsS_one]; rfl)
      have hvl : (valsS zs 0 1 m).length = m := by simp [valsS]
      generalize hpl : planL (cs.take k) = pl at *
      clear hpl ht hp
      generalize hvv : valsS zs 0 1 m = vs at *
      clear hvv
      have hv1 : 1 ≤ vs.length ∧ vs.length ≤ 60 := by omega
      obtain ⟨hv1, hv60⟩ := hv1
      clear hvl
      go_wp2_with fail
      refine wp_region_held_drew (S := fun w' => w'.cell? ⟨b, off + k * 2, none⟩ = some (.int .i64 m) ∧ w'.cell? ⟨b, off + k * 2 + 1, none⟩ = some (.slice pa0 zs.length pc0)) (by kernel_rfl) ⟨c0, c1⟩ (fun hHeld => ?_)
      try dsimp only
      refine onG 0 (some 12) (v := ?v1_) (by kernel_rfl) (by kernel_rfl) (by kernel_rfl) (fun _ _ _ h => h) (by rfl) hHeld ?hy1_ ?rest1_
      case hy1_ =>
        intro o ho; simp only [List.getElem?_toArray, List.getElem?_cons_zero, Option.some.injEq] at ho; subst ho; intro w hSw; (try dsimp only at hSw)
        go_simp
        try with_reducible rfl
      case rest1_ =>
      try simp only [Act.put, List.setIfInBounds_toArray, List.set_cons_zero, List.set_cons_succ]
      refine onG 1 (some 13) (v := ?v2_) (by kernel_rfl) (by kernel_rfl) (by kernel_rfl) (fun _ _ _ h => h) (by rfl) hHeld ?hy2_ ?rest2_
      case hy2_ =>
        intro o ho; simp only [List.getElem?_toArray, List.getElem?_cons_succ, List.getElem?_cons_zero, Option.some.injEq] at ho; subst ho; intro w hSw; (try dsimp only at hSw)
        go_simp
        try with_reducible rfl
      case rest2_ =>
      try simp only [Act.put, List.setIfInBounds_toArray, List.set_cons_zero, List.set_cons_succ]
      refine onG 2 (some 14) (v := ?v3_) (by kernel_rfl) (by kernel_rfl) (by kernel_rfl) (fun _ _ _ h => h) (by rfl) hHeld ?hy3_ ?rest3_
      case hy3_ =>
        intro o ho; simp only [List.getElem?_toArray, List.getElem?_cons_succ, List.getElem?_cons_zero, Option.some.injEq] at ho; subst ho; intro w hSw; (try dsimp only at hSw)
        go_simp
        try with_reducible rfl
      case rest3_ =>
      try simp only [Act.put, List.setIfInBounds_toArray, List.set_cons_zero, List.set_cons_succ]
      refine onG 3 (some 15) (v := ?v4_) (by kernel_rfl) (by kernel_rfl) (by kernel_rfl) (fun _ _ _ h => h) (by rfl) hHeld ?hy4_ ?rest4_
      case hy4_ =>
        intro o ho; simp only [List.getElem?_toArray, List.getElem?_cons_succ, List.getElem?_cons_zero, Option.some.injEq] at ho; subst ho; intro w hSw; (try dsimp only at hSw)
        go_simp
        try with_reducible rfl
      case rest4_ =>
      try simp only [Act.put, List.setIfInBounds_toArray, List.set_cons_zero, List.set_cons_succ]
      refine onG 4 (some 16) (v := ?v5_) (by kernel_rfl) (by kernel_rfl) (by kernel_rfl) (fun _ _ _ h => h) (by rfl) hHeld ?hy5_ ?rest5_
      case hy5_ =>
        intro o ho; simp only [List.getElem?_toArray, List.getElem?_cons_succ, List.getElem?_cons_zero, Option.some.injEq] at ho; subst ho; intro w hSw; (try dsimp only at hSw)
        go_simp
        try with_reducible rfl
      case rest5_ =>
      try simp only [Act.put, List.setIfInBounds_toArray, List.set_cons_zero, List.set_cons_succ]
      refine onG 5 (some 17) (v := ?v6_) (by kernel_rfl) (by kernel_rfl) (by kernel_rfl) (fun _ _ _ h => h) (by rfl) hHeld ?hy6_ ?rest6_
      case hy6_ =>
        intro o ho; simp only [List.getElem?_toArray, List.getElem?_cons_succ, List.getElem?_cons_zero, Option.some.injEq] at ho; subst ho; intro w hSw; (try dsimp only at hSw)
        go_simp
        try with_reducible rfl
      case rest6_ =>
      try simp only [Act.put, List.setIfInBounds_toArray, List.set_cons_zero, List.set_cons_succ]
      refine onG 6 (some 18) (v := ?v7_) (by kernel_rfl) (by kernel_rfl) (by kernel_rfl) (fun _ _ _ h => h) (by rfl) hHeld ?hy7_ ?rest7_
      case hy7_ =>
        intro o ho; simp only [List.getElem?_toArray, List.getElem?_cons_succ, List.getElem?_cons_zero, Option.some.injEq] at ho; subst ho; intro w hSw; (try dsimp only at hSw)
        go_simp
        try with_reducible rfl
      case rest7_ =>
      try simp only [Act.put, List.setIfInBounds_toArray, List.set_cons_zero, List.set_cons_succ]
      refine onG 7 (some 19) (v := ?v8_) (by kernel_rfl) (by kernel_rfl) (by kernel_rfl) (fun _ _ _ h => h) (by rfl) hHeld ?hy8_ ?rest8_
      case hy8_ =>
        intro o ho; simp only [List.getElem?_toArray, List.getElem?_cons_succ, List.getElem?_cons_zero, Option.some.injEq] at ho; subst ho; intro w hSw; (try dsimp only at hSw)
        go_simp
        try with_reducible rfl
      case rest8_ =>
      try simp only [Act.put, List.setIfInBounds_toArray, List.set_cons_zero, List.set_cons_succ]
      refine onG 8 (some 20) (v := ?v9_) (by kernel_rfl) (by kernel_rfl) (by kernel_rfl) (fun _ _ _ h => h) (by rfl) hHeld ?hy9_ ?rest9_
      case hy9_ =>
        intro o ho; simp only [List.getElem?_toArray, List.getElem?_cons_succ, List.getElem?_cons_zero, Option.some.injEq] at ho; subst ho; intro w hSw; (try dsimp only at hSw)
        go_simp
        try with_reducible rfl
      case rest9_ =>
      try simp only [Act.put, List.setIfInBounds_toArray, List.set_cons_zero, List.set_cons_succ]
      refine onG 9 (some 21) (v := ?v10_) (by kernel_rfl) (by kernel_rfl) (by kernel_rfl) (fun _ _ _ h => h) (by rfl) hHeld ?hy10_ ?rest10_
      case hy10_ =>
        intro o ho; simp only [List.getElem?_toArray, List.getElem?_cons_succ, List.getElem?_cons_zero, Option.some.injEq] at ho; subst ho; intro w hSw; (try dsimp only at hSw)
        go_simp
        try with_reducible rfl
      case rest10_ =>
      try simp only [Act.put, List.setIfInBounds_toArray, List.set_cons_zero, List.set_cons_succ]
      refine onG 10 (some 22) (v := ?v11_) (by kernel_rfl) (by kernel_rfl) (by kernel_rfl) (fun _ _ _ h => h) (by rfl) hHeld ?hy11_ ?rest11_
      case hy11_ =>
        intro o ho; simp only [List.getElem?_toArray, List.getElem?_cons_succ, List.getElem?_cons_zero, Option.some.injEq] at ho; subst ho; intro w hSw; (try dsimp only at hSw)
        go_simp
        try with_reducible rfl
      case rest11_ =>
      try simp only [Act.put, List.setIfInBounds_toArray, List.set_cons_zero, List.set_cons_succ]
      refine callG 11 (by kernel_rfl) ?_
      intro o ho; simp only [List.getElem?_toArray, List.getElem?_cons_succ, List.getElem?_cons_zero, Option.some.injEq] at ho; subst ho; intro K hK
      go_simp
      go_at_call 30
      (with_reducible refine (HVV.out _ (HP.out.below (Below.refl _ _).drew)).mono ?_)
      rintro e w5 ⟨u, rfl, hr, hb⟩
      (have RV := hidH hr)
      (have BV := hidH (show Below wr.heap.size wr w5 from ((Below.refl wr.heap.size wr).drew).trans hb))
      (have d0 : w5.cell? ⟨b, off + k * 2, none⟩ = some (.int .i64 m) := (BV.out.cell (p := ⟨b, off + k * 2, none⟩) (cell_blk _ _ _ c0)).trans c0)
      (have d1 : w5.cell? ⟨b, off + k * 2 + 1, none⟩ = some (.slice pa0 zs.length pc0) := (BV.out.cell (p := ⟨b, off + k * 2 + 1, none⟩) (cell_blk _ _ _ c1)).trans c1)
      (have W5 := hidH (owns_below HW.out BV.out))
      (have B5 := hidH (bThen HB.out BV.out))
      (have hs5 := B5.out.size)
      (obtain ⟨pb, po, pc, rfl, hpl1, hpm1, _, _, _, hpcell⟩ := hr.lies.addr (by omega))
      (unfold maxLen at hpm1)
      (have HC := hidH (cells_map hpcell))
      (have HOC := hidH (oneCells vs))
      (clear hr hb hpcell hHeld)
      go_wp2_with fail
      refine hK.out _ _ ?_ (fun hHeld => ?_)
      · exact ⟨d0, d1⟩
      clear hK K
      try simp only [Act.put, List.setIfInBounds_toArray, List.set_cons_zero, List.set_cons_succ]
      refine callG 12 (by kernel_rfl) ?_
      intro o ho; simp only [List.getElem?_toArray, List.getElem?_cons_succ, List.getElem?_cons_zero, Option.some.injEq] at ho; subst ho; intro K hK
      refine step_append_lies _ (by rfl) _ _ _ (by rfl) w.heap.size 3 i0 _ 1 8 Try.underlying30 hi0 hz0 hz1 hz2 rfl (by omega) ov pl.length (ints pl) (by rfl) W5.out ⟨pb, po, none⟩ vs.length pc (ints vs) (by rfl) ?qc1 ?qc2 HOC.out (by omega) ?qc4 ?qc5 hs5 _ rfl ?_
      case qc1 => rw [ints_length, Nat.mul_one]
      case qc2 => exact HC.out _ (Below.refl _ _)
      case qc4 => unfold maxLen; omega
      case qc5 => omega
      intro g7 cap7 w7 hown1 hgrow _ _
      have W7 := hidH hown1
      have B7 := hidH ((B5.out).grown hgrow hs5 fun g hg => (W5.out.lt g hg).1)
      clear hown1 hgrow
      refine hK.out _ _ ?_ (fun hHeld => ?_)
      · exact ⟨(B7.out.cell (p := ⟨b, off + k * 2, none⟩) (by assumption)).trans ((HB.out.cell (p := ⟨b, off + k * 2, none⟩) (by assumption)).symm.trans c0), (B7.out.cell (p := ⟨b, off + k * 2 + 1, none⟩) (by assumption)).trans ((HB.out.cell (p := ⟨b, off + k * 2 + 1, none⟩) (by assumption)).symm.trans c1)⟩
      clear hK K
      try simp only [Act.put, List.setIfInBounds_toArray, List.set_cons_zero, List.set_cons_succ]
      refine onG 13 (some 3) (v := ?v12_) (by kernel_rfl) (by kernel_rfl) (by kernel_rfl) (fun _ _ _ h => h) (by rfl) hHeld ?hy12_ ?rest12_
      case hy12_ =>
        intro o ho; simp only [List.getElem?_toArray, List.getElem?_cons_succ, List.getElem?_cons_zero, Option.some.injEq] at ho; subst ho; intro w hSw; (try dsimp only at hSw)
        go_simp
        try with_reducible rfl
      case rest12_ =>
      try simp only [Act.put, List.setIfInBounds_toArray, List.set_cons_zero, List.set_cons_succ]
      refine wpAnyH_done (by kernel_rfl) ?_ _
      go_wp2_with fail
      go_roundw
      case rel =>
        refine ⟨k + 1, _, by omega, by go_num, rfl, ?_, B7.out⟩
        rw [HSN.out, HVE.out, ints_append, List.length_append]
        exact W7.out
      case measure => simp [intOf]; omega
    · obtain rfl : k = cs.length := by omega
      have h := HW.out
      rw [List.take_length] at h
      have HRW := hidH (row_of_owns h).1
      clear h
      go_wp2_with fail
      go_ret
      exact ⟨_, rfl, HRW.out, HB.out⟩
theorem sPlanValues_any (v : Value) (cs : List (Int × List Int)) (w : World) (h1 : Nat) (hv : LiesSg w h1 v cs) (hn : cs.length ≤ 1048576) : Calls Try.prog 15 #[v] w (NewRowB (planA cs) (planOk cs) w) := by
  have HV := hidH (sPlanValid_any v cs w h1 hv hn)
  unfold planA
  cases hok : planOk cs
  · rw [hok] at HV
    clear hok
    go_enter Try.func15, Try.ntmps15
    go_wp2_with fail
    refine HV.out.mono ?_; rintro e w1 ⟨rfl, hb⟩
    have HB := hidH hb
    clear hb
    go_wp2_with fail
    go_ret2
    exact ⟨_, rfl, Row.nil _ _ _ _ _ (Nat.zero_le _) (fun h => by cases h), bMore HB.out _⟩
  · have HL := hidH (fun W (hb : Below w.heap.size w W) => l5Values_any v cs W h1 (hv.below hb) hok)
    rw [hok] at HV
    clear hok
    go_enter Try.func15, Try.ntmps15
    go_wp2_with fail
    refine HV.out.mono ?_; rintro e w1 ⟨rfl, hb⟩
    have HB := hidH hb
    clear hb
    go_wp2_with fail
    refine (HL.out _ HB.out).mono ?_; rintro e w2 ⟨u, rfl, hr, hb⟩
    have HB2 := hidH (bThen HB.out hb)
    have HR := hidH (hr.mono HB.out.size (Nat.le_refl _))
    clear hr hb
    go_wp2_with fail
    go_ret2
    exact ⟨_, rfl, HR.out, HB2.out⟩
end Go.Proofs.Yteacpfejjphabaa
