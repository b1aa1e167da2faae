/-
  The walk of the law FnJoinTrue. No conditions but that the bytes that came in can be read.
  The walk of the law FnSplitJoin. No conditions but that the bytes that came in can be read.
-/
import Derived.Test.YtgnoclnenhmakaaSplE
import Derived.Test.YtgnoclnenhmakaaSplL
import Derived.Test.YtgnoclnenhmakaaPlfW
import Derived.Test.YtgnoclnenhmakaaPolyAm
import Derived.Test.YtgnoclnenhmakaaPolyLf
namespace Go.Proofs.Ytgnoclnenhmakaa
set_option maxRecDepth 4000
open Go.RowKit
theorem planOk_table2 {cs : List (Int × List Int)} (h : planOk cs = true) : tableOk (planL cs) = true := by
  obtain ⟨h1, h60, hall, _, ht⟩ := planOk_parts h
  have hl := planL_tot cs
  have hg := totN_ge cs (segOk_cnt hall)
  refine (listOk_iff 60 1000000000 _).2 ⟨by omega, by omega, fun x hx => ?_⟩
  unfold planL at hx
  obtain ⟨s, hs, hxs⟩ := List.mem_flatMap.1 hx
  obtain ⟨_, _, _, ht⟩ := segOk_parts (List.all_eq_true.1 hall s hs)
  exact ((listOk_iff 60 1000000000 _).1 ht).2.2 x hxs
/-- What a plan with two joined segments is. -/
theorem join_good {cs : List (Int × List Int)} {i d : Int} (h : joinB cs i d = true) : ∃ k : Nat, i = (k : Int) ∧ k + 2 ≤ cs.length ∧ cs.length ≤ 60 ∧ planOk cs = true ∧ planOk (joinA cs i d) = true ∧ planL (joinA cs i d) = planL cs ∧ (joinA cs i d).length + 1 = cs.length ∧ (joinA cs i d)[k]? = some (((joinV cs k).length : Int), interA (joinV cs k)) ∧ degL (interA (joinV cs k)) ≤ d ∧ ∃ c0 c1 z0 z1, cs[k]? = some (c0, z0) ∧ cs[k + 1]? = some (c1, z1) ∧ ((joinV cs k).length : Int) = c0 + c1 ∧ (joinV cs k).length ≤ 60 := by
  have h' := h
  unfold joinB at h'
  rw [Bool.and_eq_true, Bool.and_eq_true, Bool.and_eq_true, decide_eq_true_eq] at h'
  obtain ⟨hp, hi, _, hr⟩ := h'
  obtain ⟨k, rfl⟩ : ∃ k : Nat, i = (k : Int) := ⟨i.toNat, by omega⟩
  rw [Int.toNat_natCast] at hr
  have hk : k + 2 ≤ cs.length := by omega
  have hja := (joinB_at d hp hk).2 h
  obtain ⟨_, h60, hall⟩ := planOk_seg hp
  obtain ⟨s1, _, s3, s4⟩ := sub_ok hp hk
  have hr' := hr
  unfold runB at hr'
  rw [Bool.and_eq_true, decide_eq_true_eq] at hr'
  obtain ⟨T, P, e, eT, _, _, hPok, hdeg, hvals, _, _⟩ := inter_yes (joinV cs k) hr'.2
  have hx0 : cs[k]? = some (cs[k].1, cs[k].2) := List.getElem?_eq_getElem (by omega)
  have hx1 : cs[k + 1]? = some (cs[k + 1].1, cs[k + 1].2) := List.getElem?_eq_getElem (by omega)
  have hc0 := hall cs[k].1 cs[k].2 (List.getElem_mem (show k < cs.length by omega))
  have hc1 := hall cs[k + 1].1 cs[k + 1].2 (List.getElem_mem (show k + 1 < cs.length by omega))
  have hv : segV (((joinV cs k).length : Int), interA (joinV cs k)) = joinV cs k := by
    unfold segV
    rw [e, Int.toNat_natCast]
    apply List.ext_getElem?
    intro n
    by_cases hn : n < (joinV cs k).length
    · rw [vals_get _ _ _ _ hn, hvals n hn, Int.zero_add]
    · rw [List.getElem?_eq_none (by rw [vals_length]; omega), List.getElem?_eq_none (by omega)]
  have hso : segOk (((joinV cs k).length : Int), interA (joinV cs k)) = true := by
    have hv2 : vals (interA (joinV cs k)) 0 ((joinV cs k).length : Int).toNat = joinV cs k := hv
    have ht : tableOk (joinV cs k) = true := planOk_table2 s1
    show (polyOk (interA (joinV cs k)) && (decide ((1 : Int) ≤ ((joinV cs k).length : Int) ∧ ((joinV cs k).length : Int) ≤ 60) && tableOk (vals (interA (joinV cs k)) 0 ((joinV cs k).length : Int).toNat))) = true
    rw [hv2, ht, e, hPok, decide_eq_true (by omega)]; rfl
  have hL : planL (joinA cs (k : Int) d) = planL cs := by
    rw [hja]
    have e2 : planL cs = planL (cs.take k) ++ (joinV cs k ++ planL ((cs.drop k).drop 2)) := by
      unfold joinV planL
      rw [← List.flatMap_append, List.take_append_drop, ← List.flatMap_append, List.take_append_drop]
    rw [e2, List.drop_drop]
    unfold planL
    rw [List.flatMap_append, List.flatMap_append, List.append_assoc]
    congr 2
    simp [hv]
  have hpp := planOk_parts hp
  refine ⟨k, rfl, hk, h60, hp, ?_, hL, by rw [hja]; simp; omega, ?_, by rw [e, hdeg]; omega, _, _, _, _, hx0, hx1, s3, s4⟩
  · unfold planOk
    rw [hL, planL_tot, decide_eq_true hpp.2.2.2.2, hja, decide_eq_true (by simp; omega), Bool.and_true, Bool.true_and]
    refine List.all_eq_true.2 fun s hs => ?_
    rw [List.mem_append, List.mem_append] at hs
    rcases hs with (hs | hs) | hs
    · exact List.all_eq_true.1 hpp.2.2.1 s (List.mem_of_mem_take hs)
    · simp at hs
      rw [hs]; exact hso
    · exact List.all_eq_true.1 hpp.2.2.1 s (List.mem_of_mem_drop hs)
  · rw [hja, List.append_assoc, List.getElem?_append_right (by rw [List.length_take]; omega), List.length_take, show k - min k cs.length = 0 by omega]; rfl
set_option maxHeartbeats 6400000 in
theorem lawJoinTrue (a : Option Addr) (len cap : Nat) (w : World) (hc : Came w a len cap) : Calls Try.prog 7 #[.slice a len cap] w (Gives (.bool true) w) := by
  have HC := hidH hc
  have hc1 := hc.lenLe
  have hc2 := hc.capLe
  unfold maxLen at hc2
  by_cases hbig : 1048576 < len
  · go_enter Try.func7, Try.ntmps7
    go_wp2
    go_ret
    exact ⟨rfl, Below.refl _ _⟩
  have hsm : len ≤ 1048576 := by omega
  clear hbig hc
  go_enter Try.func7, Try.ntmps7
  have B0 := hidH (Below.refl w.heap.size w)
  go_wp2_with fail
  refine (drawJoinSegs a len cap _ HC.out hsm).mono ?_; rintro e w1 ⟨v, cs, i, d, rfl, hz, hl61, hp7, hb⟩
  have B1 := hidH (bThen B0.out hb)
  have s1 := hb.size
  have LZ_1 := hidH hz
  clear hb B0  hz
  have HP7 := hidH (fun (c : Int) (zs : List Int) (h : (c, zs) ∈ cs) => show zs.length ≤ 1048576 from by have := hp7 c zs h; omega)
  clear hp7
  obtain ⟨za, zcap, rfl, zc1, zc2⟩ := LZ_1.out.len
  unfold maxLen at zc2
  obtain ⟨hjl, _⟩ := joinA_len cs i d
  cases hok : joinB cs i d
  · have HT := hidH hok
    clear hok
    go_wp2_with fail
    refine (join_any _ cs i d _ _ LZ_1.out (by omega)).mono ?_; rintro e w2 ⟨p, rfl, hr, hb⟩
    rw [HT.out]
    have B2 := hidH (bThen B1.out hb)
    have s2 := hb.size
    have LZ_2 := hidH (LZ_1.out.below hb)
    have X_2 := hidH hr
    clear hb B1 LZ_1 hr
    obtain ⟨pa, pcap, rfl, hpl, hpc⟩ := X_2.out.form
    unfold maxLen at hpc
    go_wp2_with fail
    refine (sJoin_any _ cs i d _ _ LZ_2.out (by omega) HP7.out).mono ?_; rintro e w3 ⟨q, rfl, hr, hb⟩
    rw [HT.out]
    have B3 := hidH (bThen B2.out hb)
    have s3 := hb.size
    have LZ_3 := hidH (LZ_2.out.below hb)
    have X_3 := hidH (X_2.out.below hb)
    have Q_3 := hidH hr
    clear hb B2 LZ_2 X_2 hr
    obtain ⟨qa, qcap, rfl, hql, hqc⟩ := Q_3.out.form
    unfold maxLen at hqc
    generalize joinA cs i d = gs at *
    go_wp2_with fail
    refine (dePlans_yes _ _ gs _ _ _ X_3.out.lies Q_3.out.lies (by omega)).mono ?_; rintro e w4 ⟨rfl, hb⟩
    have B4 := hidH (bThen B3.out hb)
    have s4 := hb.size
    have LZ_4 := hidH (LZ_3.out.below hb)
    have X_4 := hidH (X_3.out.below hb)
    have Q_4 := hidH (Q_3.out.below hb)
    clear hb B3 LZ_3 X_3 Q_3
    go_wp2_with fail
    refine (dePlans_yes _ _ gs _ _ _ X_4.out.lies Q_4.out.lies (by omega)).mono ?_; rintro e w5 ⟨rfl, hb⟩
    have B5 := hidH (bThen B4.out hb)
    have s5 := hb.size
    have LZ_5 := hidH (LZ_4.out.below hb)
    have X_5 := hidH (X_4.out.below hb)
    have Q_5 := hidH (Q_4.out.below hb)
    clear hb B4 LZ_4 X_4 Q_4
    go_wp2_with fail
    go_ret
    exact ⟨rfl, B5.out⟩
  · have HT := hidH hok
    obtain ⟨k, rfl, hk2, hk60, j1, j2, j3, j4, j5, j6, c0, c1, z0, z1, j7, j8, j9, j10⟩ := join_good hok
    have HJ1 := hidH j1
    have HJ2 := hidH j2
    have HPA := hidH (show planA cs = planL cs by unfold planA; rw [j1, if_pos rfl])
    have HPB := hidH (show planA (joinA cs (k : Int) d) = planL cs by unfold planA; rw [j2, if_pos rfl, j3])
    have HJ4 := hidH j4
    have HJ5 := hidH j5
    have HJ7 := hidH j7
    have HJ8 := hidH j8
    have HJ9 := hidH j9
    have HJ6 := hidH j6
    clear hok j1 j2 j3 j4 j5 j6 j7 j8 j9
    generalize hvl : (joinV cs k).length = vl at *
    generalize interA (joinV cs k) = ps at *
    clear hvl
    generalize hi : (k : Int) = i at *
    have HI := hidH hi
    clear hi
    go_wp2_with fail
    refine (join_any _ cs i d _ _ LZ_1.out (by omega)).mono ?_; rintro e w2 ⟨p, rfl, hr, hb⟩
    rw [HT.out]
    have B2 := hidH (bThen B1.out hb)
    have s2 := hb.size
    have LZ_2 := hidH (LZ_1.out.below hb)
    have X_2 := hidH hr
    clear hb B1 LZ_1 hr
    obtain ⟨pa, pcap, rfl, hpl, hpc⟩ := X_2.out.form
    unfold maxLen at hpc
    go_wp2_with fail
    refine (sJoin_any _ cs i d _ _ LZ_2.out (by omega) HP7.out).mono ?_; rintro e w3 ⟨q, rfl, hr, hb⟩
    rw [HT.out]
    have B3 := hidH (bThen B2.out hb)
    have s3 := hb.size
    have LZ_3 := hidH (LZ_2.out.below hb)
    have X_3 := hidH (X_2.out.below hb)
    have Q_3 := hidH hr
    clear hb B2 LZ_2 X_2 hr
    obtain ⟨qa, qcap, rfl, hql, hqc⟩ := Q_3.out.form
    unfold maxLen at hqc
    generalize joinA cs i d = gs at *
    go_wp2_with fail
    refine (dePlans_yes _ _ gs _ _ _ X_3.out.lies Q_3.out.lies (by omega)).mono ?_; rintro e w4 ⟨rfl, hb⟩
    have B4 := hidH (bThen B3.out hb)
    have s4 := hb.size
    have LZ_4 := hidH (LZ_3.out.below hb)
    have X_4 := hidH (X_3.out.below hb)
    have Q_4 := hidH (Q_3.out.below hb)
    clear hb B3 LZ_3 X_3 Q_3
    go_wp2_with fail
    refine (planValues_any _ cs _ _ LZ_4.out (by omega)).mono ?_; rintro e w5 ⟨r1, rfl, hr, hb⟩
    rw [HJ1.out]
    rw [HPA.out] at hr
    have B5 := hidH (bThen B4.out hb)
    have s5 := hb.size
    have LZ_5 := hidH (LZ_4.out.below hb)
    have X_5 := hidH (X_4.out.below hb)
    have Q_5 := hidH (Q_4.out.below hb)
    have R_5 := hidH hr
    clear hb B4 LZ_4 X_4 Q_4 hr
    obtain ⟨ra, rcap, rfl⟩ := R_5.out.some
    go_wp2_with fail
    refine (planValues_any _ gs _ _ X_5.out.lies (by omega)).mono ?_; rintro e w6 ⟨r2, rfl, hr, hb⟩
    rw [HJ2.out]
    rw [HPB.out] at hr
    have B6 := hidH (bThen B5.out hb)
    have s6 := hb.size
    have LZ_6 := hidH (LZ_5.out.below hb)
    have X_6 := hidH (X_5.out.below hb)
    have Q_6 := hidH (Q_5.out.below hb)
    have R_6 := hidH (R_5.out.below hb)
    have T_6 := hidH hr
    clear hb B5 LZ_5 X_5 Q_5 R_5 hr
    obtain ⟨ta, tcap, rfl⟩ := T_6.out.some
    obtain ⟨xb, xo, xc, e, _, _, _, hxl⟩ := X_6.out.lies.addr (by have := HJ4.out; omega)
    injection e with e1 e2 e3
    subst e1 e3
    clear e2
    obtain ⟨zb, zo, zc, e, _, _, _, hzl⟩ := LZ_6.out.addr (by omega)
    injection e with e1 e2 e3
    subst e1 e3
    clear e2
    obtain ⟨u, d0, d1, hlu⟩ := hxl k _ _ HJ5.out
    obtain ⟨ua, uc, rfl⟩ := hlu.some
    obtain ⟨_, d2, _, _⟩ := hzl k _ _ HJ7.out
    obtain ⟨q1, hq1⟩ : ∃ q1, q1 = k + 1 := ⟨_, rfl⟩
    have hj8 := HJ8.out
    rw [← hq1] at hj8
    obtain ⟨_, d3, _, _⟩ := hzl q1 _ _ hj8
    have HDE := hidH (fun W (hb : Below w6.heap.size w6 W) => deInts_yes (.slice ra (planL cs).length rcap) (.slice ta (planL cs).length tcap) (planL cs) W _ _ _ _ (R_6.out.lies.below hb) (T_6.out.lies.below hb))
    have HLU := hidH hlu
    have HDG := hidH (fun W (hb : Below w6.heap.size w6 W) => degree_any (.slice ua ps.length uc) ps W _ _ (HLU.out.below hb))
    have hdl := HJ6.out
    generalize degL ps = dl at *
    have hgl : gs.length + 1 = cs.length := HJ4.out
    have hkg : k < gs.length := by omega
    have hkc : k < cs.length := by omega
    have hq1c : q1 < cs.length := by omega
    have hqi : IntKind.i64.wrap ((k : Int) + 1) = (q1 : Int) := by rw [hq1]; exact IntWalk.i64_in _ (by omega)
    have hsub : IntKind.i64.wrap ((cs.length : Int) - 1) = (gs.length : Int) := by rw [show (cs.length : Int) - 1 = (gs.length : Int) by omega]; exact IntWalk.i64_in _ (by omega)
    have hsum : IntKind.i64.wrap (c0 + c1) = (vl : Int) := by rw [← HJ9.out]; exact IntWalk.i64_in _ (by omega)
    clear hxl hzl hlu hj8 hq1 hgl
    have hik := HI.out
    subst hik
    change w6.drew.cell? _ = _ at d0
    change w6.drew.cell? _ = _ at d1
    change w6.drew.cell? _ = _ at d2
    change w6.drew.cell? _ = _ at d3
    go_wp2_with fail
    refine wp_region_held_drew (S := fun w' => w'.cell? ⟨xb, xo + k * 2, none⟩ = some (.int .i64 (vl : Int)) ∧ w'.cell? ⟨xb, xo + k * 2 + 1, none⟩ = some (.slice ua ps.length uc) ∧ w'.cell? ⟨zb, zo + k * 2, none⟩ = some (.int .i64 c0) ∧ w'.cell? ⟨zb, zo + q1 * 2, none⟩ = some (.int .i64 c1)) (by kernel_rfl) ⟨d0, d1, d2, d3⟩ (fun hHeld => ?_)
    try dsimp only
    refine onG 0 (some 68) (v := .bool true) (by kernel_rfl) (by kernel_rfl) (by kernel_rfl) (fun _ _ _ h => h) (by rfl) hHeld ?hy31_ ?rest31_
    case hy31_ =>
      intro o ho; simp only [List.getElem?_toArray, List.getElem?_cons_zero, Option.some.injEq] at ho; subst ho; intro w hSw; (try dsimp only at hSw)
      go_simp
      all_goals (first | done | (simp; done) | (simp; omega))
    case rest31_ =>
    try simp only [Act.put, List.setIfInBounds_toArray, List.set_cons_zero, List.set_cons_succ]
    refine onG 1 (some 69) (v := .bool true) (by kernel_rfl) (by kernel_rfl) (by kernel_rfl) (fun _ _ _ h => h) (by rfl) hHeld ?hy32_ ?rest32_
    case hy32_ =>
      intro o ho; simp only [List.getElem?_toArray, List.getElem?_cons_succ, List.getElem?_cons_zero, Option.some.injEq] at ho; subst ho; intro w hSw; (try dsimp only at hSw)
      go_simp
      all_goals (first | done | (simp; done) | (simp; omega))
    case rest32_ =>
    try simp only [Act.put, List.setIfInBounds_toArray, List.set_cons_zero, List.set_cons_succ]
    refine onG 2 (some 70) (v := ?v33_) (by kernel_rfl) (by kernel_rfl) (by kernel_rfl) (fun _ _ _ h => h) (by rfl) hHeld ?hy33_ ?rest33_
    case hy33_ =>
      intro o ho; simp only [List.getElem?_toArray, List.getElem?_cons_succ, List.getElem?_cons_zero, Option.some.injEq] at ho; subst ho; intro w hSw; (try dsimp only at hSw)
      go_simp
      try with_reducible rfl
    case rest33_ =>
    try simp only [Act.put, List.setIfInBounds_toArray, List.set_cons_zero, List.set_cons_succ]
    refine onG 3 (some 71) (v := .bool true) (by kernel_rfl) (by kernel_rfl) (by kernel_rfl) (fun _ _ _ h => h) (by rfl) hHeld ?hy34_ ?rest34_
    case hy34_ =>
      intro o ho; simp only [List.getElem?_toArray, List.getElem?_cons_succ, List.getElem?_cons_zero, Option.some.injEq] at ho; subst ho; intro w hSw; (try dsimp only at hSw)
      go_simp
      all_goals (first | done | (simp; done) | (simp; omega))
    case rest34_ =>
    try simp only [Act.put, List.setIfInBounds_toArray, List.set_cons_zero, List.set_cons_succ]
    refine onG 4 (some 72) (v := .bool true) (by kernel_rfl) (by kernel_rfl) (by kernel_rfl) (fun _ _ _ h => h) (by rfl) hHeld ?hy35_ ?rest35_
    case hy35_ =>
      intro o ho; simp only [List.getElem?_toArray, List.getElem?_cons_succ, List.getElem?_cons_zero, Option.some.injEq] at ho; subst ho; intro w hSw; (try dsimp only at hSw)
      go_simp
      all_goals (first | done | (simp; done) | (simp; omega))
    case rest35_ =>
    try simp only [Act.put, List.setIfInBounds_toArray, List.set_cons_zero, List.set_cons_succ]
    refine onG 5 (some 73) (v := ?v36_) (by kernel_rfl) (by kernel_rfl) (by kernel_rfl) (fun _ _ _ h => h) (by rfl) hHeld ?hy36_ ?rest36_
    case hy36_ =>
      intro o ho; simp only [List.getElem?_toArray, List.getElem?_cons_succ, List.getElem?_cons_zero, Option.some.injEq] at ho; subst ho; intro w hSw; (try dsimp only at hSw)
      go_simp
      try with_reducible rfl
    case rest36_ =>
    try simp only [Act.put, List.setIfInBounds_toArray, List.set_cons_zero, List.set_cons_succ]
    refine onG 6 (some 74) (v := ?v37_) (by kernel_rfl) (by kernel_rfl) (by kernel_rfl) (fun _ _ _ h => h) (by rfl) hHeld ?hy37_ ?rest37_
    case hy37_ =>
      intro o ho; simp only [List.getElem?_toArray, List.getElem?_cons_succ, List.getElem?_cons_zero, Option.some.injEq] at ho; subst ho; intro w hSw; (try dsimp only at hSw)
      go_simp
      try with_reducible rfl
    case rest37_ =>
    try simp only [Act.put, List.setIfInBounds_toArray, List.set_cons_zero, List.set_cons_succ]
    refine callG 7 (by kernel_rfl) ?_
    intro o ho; simp only [List.getElem?_toArray, List.getElem?_cons_succ, List.getElem?_cons_zero, Option.some.injEq] at ho; subst ho; intro K hK
    go_simp
    go_at_call 19
    (with_reducible refine (HDE.out _ ((Below.refl _ w6).drew)).mono ?_)
    rintro e wa ⟨rfl, hb⟩
    (have HBa := hidH ((Below.refl w6.heap.size w6).drew.trans (hb.mono (Nat.le_refl _))))
    (have g0 := (hb.cell (p := ⟨xb, xo + k * 2, none⟩) (cell_blk _ _ _ d0)).trans d0)
    (have g1 := (hb.cell (p := ⟨xb, xo + k * 2 + 1, none⟩) (cell_blk _ _ _ d1)).trans d1)
    (have g2 := (hb.cell (p := ⟨zb, zo + k * 2, none⟩) (cell_blk _ _ _ d2)).trans d2)
    (have g3 := (hb.cell (p := ⟨zb, zo + q1 * 2, none⟩) (cell_blk _ _ _ d3)).trans d3)
    (clear hb hHeld)
    go_wp2_with fail
    refine hK.out _ _ ?_ (fun hHeld => ?_)
    · exact ⟨g0, g1, g2, g3⟩
    clear hK K
    try simp only [Act.put, List.setIfInBounds_toArray, List.set_cons_zero, List.set_cons_succ]
    refine onG 8 (some 76) (v := .bool true) (by kernel_rfl) (by kernel_rfl) (by kernel_rfl) (fun _ _ _ h => h) (by rfl) hHeld ?hy38_ ?rest38_
    case hy38_ =>
      intro o ho; simp only [List.getElem?_toArray, List.getElem?_cons_succ, List.getElem?_cons_zero, Option.some.injEq] at ho; subst ho; intro w hSw; (try dsimp only at hSw)
      go_simp
      all_goals (first | done | (simp; done) | (simp; omega))
    case rest38_ =>
    try simp only [Act.put, List.setIfInBounds_toArray, List.set_cons_zero, List.set_cons_succ]
    refine onG 9 (some 77) (v := .bool true) (by kernel_rfl) (by kernel_rfl) (by kernel_rfl) (fun _ _ _ h => h) (by rfl) hHeld ?hy39_ ?rest39_
    case hy39_ =>
      intro o ho; simp only [List.getElem?_toArray, List.getElem?_cons_succ, List.getElem?_cons_zero, Option.some.injEq] at ho; subst ho; intro w hSw; (try dsimp only at hSw)
      go_simp
      all_goals (first | done | (simp; done) | (simp; omega))
    case rest39_ =>
    try simp only [Act.put, List.setIfInBounds_toArray, List.set_cons_zero, List.set_cons_succ]
    refine onG 10 (some 78) (v := ?v40_) (by kernel_rfl) (by kernel_rfl) (by kernel_rfl) (fun _ _ _ h => h) (by rfl) hHeld ?hy40_ ?rest40_
    case hy40_ =>
      intro o ho; simp only [List.getElem?_toArray, List.getElem?_cons_succ, List.getElem?_cons_zero, Option.some.injEq] at ho; subst ho; intro w hSw; (try dsimp only at hSw)
      go_simp
      try with_reducible rfl
    case rest40_ =>
    try simp only [Act.put, List.setIfInBounds_toArray, List.set_cons_zero, List.set_cons_succ]
    refine onG 11 (some 79) (v := ?v41_) (by kernel_rfl) (by kernel_rfl) (by kernel_rfl) (fun _ _ _ h => h) (by rfl) hHeld ?hy41_ ?rest41_
    case hy41_ =>
      intro o ho; simp only [List.getElem?_toArray, List.getElem?_cons_succ, List.getElem?_cons_zero, Option.some.injEq] at ho; subst ho; intro w hSw; (try dsimp only at hSw)
      go_simp
      try with_reducible rfl
    case rest41_ =>
    try simp only [Act.put, List.setIfInBounds_toArray, List.set_cons_zero, List.set_cons_succ]
    refine onG 12 (some 80) (v := ?v42_) (by kernel_rfl) (by kernel_rfl) (by kernel_rfl) (fun _ _ _ h => h) (by rfl) hHeld ?hy42_ ?rest42_
    case hy42_ =>
      intro o ho; simp only [List.getElem?_toArray, List.getElem?_cons_succ, List.getElem?_cons_zero, Option.some.injEq] at ho; subst ho; intro w hSw; (try dsimp only at hSw)
      go_simp
      try with_reducible rfl
    case rest42_ =>
    try simp only [Act.put, List.setIfInBounds_toArray, List.set_cons_zero, List.set_cons_succ]
    refine onG 13 (some 81) (v := ?v43_) (by kernel_rfl) (by kernel_rfl) (by kernel_rfl) (fun _ _ _ h => h) (by rfl) hHeld ?hy43_ ?rest43_
    case hy43_ =>
      intro o ho; simp only [List.getElem?_toArray, List.getElem?_cons_succ, List.getElem?_cons_zero, Option.some.injEq] at ho; subst ho; intro w hSw; (try dsimp only at hSw)
      go_simp
      try with_reducible rfl
    case rest43_ =>
    try simp only [Act.put, List.setIfInBounds_toArray, List.set_cons_zero, List.set_cons_succ]
    refine onG 14 (some 82) (v := ?v44_) (by kernel_rfl) (by kernel_rfl) (by kernel_rfl) (fun _ _ _ h => h) (by rfl) hHeld ?hy44_ ?rest44_
    case hy44_ =>
      intro o ho; simp only [List.getElem?_toArray, List.getElem?_cons_succ, List.getElem?_cons_zero, Option.some.injEq] at ho; subst ho; intro w hSw; (try dsimp only at hSw)
      go_simp
      try with_reducible rfl
    case rest44_ =>
    try simp only [Act.put, List.setIfInBounds_toArray, List.set_cons_zero, List.set_cons_succ]
    refine onG 15 (some 83) (v := .bool true) (by kernel_rfl) (by kernel_rfl) (by kernel_rfl) (fun _ _ _ h => h) (by rfl) hHeld ?hy45_ ?rest45_
    case hy45_ =>
      intro o ho; simp only [List.getElem?_toArray, List.getElem?_cons_succ, List.getElem?_cons_zero, Option.some.injEq] at ho; subst ho; intro w hSw; (try dsimp only at hSw)
      go_simp
      all_goals (first | done | (simp; done) | (simp; omega))
    case rest45_ =>
    try simp only [Act.put, List.setIfInBounds_toArray, List.set_cons_zero, List.set_cons_succ]
    refine onG 16 (some 84) (v := .bool true) (by kernel_rfl) (by kernel_rfl) (by kernel_rfl) (fun _ _ _ h => h) (by rfl) hHeld ?hy46_ ?rest46_
    case hy46_ =>
      intro o ho; simp only [List.getElem?_toArray, List.getElem?_cons_succ, List.getElem?_cons_zero, Option.some.injEq] at ho; subst ho; intro w hSw; (try dsimp only at hSw)
      go_simp
      all_goals (first | done | (simp; done) | (simp; omega))
    case rest46_ =>
    try simp only [Act.put, List.setIfInBounds_toArray, List.set_cons_zero, List.set_cons_succ]
    refine onG 17 (some 85) (v := .bool true) (by kernel_rfl) (by kernel_rfl) (by kernel_rfl) (fun _ _ _ h => h) (by rfl) hHeld ?hy47_ ?rest47_
    case hy47_ =>
      intro o ho; simp only [List.getElem?_toArray, List.getElem?_cons_succ, List.getElem?_cons_zero, Option.some.injEq] at ho; subst ho; intro w hSw; (try dsimp only at hSw)
      go_simp
      all_goals (first | done | (simp; done) | (simp; omega))
    case rest47_ =>
    try simp only [Act.put, List.setIfInBounds_toArray, List.set_cons_zero, List.set_cons_succ]
    refine onG 18 (some 86) (v := ?v48_) (by kernel_rfl) (by kernel_rfl) (by kernel_rfl) (fun _ _ _ h => h) (by rfl) hHeld ?hy48_ ?rest48_
    case hy48_ =>
      intro o ho; simp only [List.getElem?_toArray, List.getElem?_cons_succ, List.getElem?_cons_zero, Option.some.injEq] at ho; subst ho; intro w hSw; (try dsimp only at hSw)
      go_simp
      try with_reducible rfl
    case rest48_ =>
    try simp only [Act.put, List.setIfInBounds_toArray, List.set_cons_zero, List.set_cons_succ]
    refine onG 19 (some 87) (v := ?v49_) (by kernel_rfl) (by kernel_rfl) (by kernel_rfl) (fun _ _ _ h => h) (by rfl) hHeld ?hy49_ ?rest49_
    case hy49_ =>
      intro o ho; simp only [List.getElem?_toArray, List.getElem?_cons_succ, List.getElem?_cons_zero, Option.some.injEq] at ho; subst ho; intro w hSw; (try dsimp only at hSw)
      go_simp
      try with_reducible rfl
    case rest49_ =>
    try simp only [Act.put, List.setIfInBounds_toArray, List.set_cons_zero, List.set_cons_succ]
    refine onG 20 (some 88) (v := ?v50_) (by kernel_rfl) (by kernel_rfl) (by kernel_rfl) (fun _ _ _ h => h) (by rfl) hHeld ?hy50_ ?rest50_
    case hy50_ =>
      intro o ho; simp only [List.getElem?_toArray, List.getElem?_cons_succ, List.getElem?_cons_zero, Option.some.injEq] at ho; subst ho; intro w hSw; (try dsimp only at hSw)
      go_simp
      try with_reducible rfl
    case rest50_ =>
    try simp only [Act.put, List.setIfInBounds_toArray, List.set_cons_zero, List.set_cons_succ]
    refine onG 21 (some 89) (v := ?v51_) (by kernel_rfl) (by kernel_rfl) (by kernel_rfl) (fun _ _ _ h => h) (by rfl) hHeld ?hy51_ ?rest51_
    case hy51_ =>
      intro o ho; simp only [List.getElem?_toArray, List.getElem?_cons_succ, List.getElem?_cons_zero, Option.some.injEq] at ho; subst ho; intro w hSw; (try dsimp only at hSw)
      go_simp
      try with_reducible rfl
    case rest51_ =>
    try simp only [Act.put, List.setIfInBounds_toArray, List.set_cons_zero, List.set_cons_succ]
    refine onG 22 (some 90) (v := ?v52_) (by kernel_rfl) (by kernel_rfl) (by kernel_rfl) (fun _ _ _ h => h) (by rfl) hHeld ?hy52_ ?rest52_
    case hy52_ =>
      intro o ho; simp only [List.getElem?_toArray, List.getElem?_cons_succ, List.getElem?_cons_zero, Option.some.injEq] at ho; subst ho; intro w hSw; (try dsimp only at hSw)
      go_simp
      try with_reducible rfl
    case rest52_ =>
    try simp only [Act.put, List.setIfInBounds_toArray, List.set_cons_zero, List.set_cons_succ]
    refine onG 24 (some 92) (v := ?v53_) (by kernel_rfl) (by kernel_rfl) (by kernel_rfl) (fun _ _ _ h => h) (by rfl) hHeld ?hy53_ ?rest53_
    case hy53_ =>
      intro o ho; simp only [List.getElem?_toArray, List.getElem?_cons_succ, List.getElem?_cons_zero, Option.some.injEq] at ho; subst ho; intro w hSw; (try dsimp only at hSw)
      go_simp
      try with_reducible rfl
    case rest53_ =>
    try simp only [Act.put, List.setIfInBounds_toArray, List.set_cons_zero, List.set_cons_succ]
    refine callG 23 (by kernel_rfl) ?_
    intro o ho; simp only [List.getElem?_toArray, List.getElem?_cons_succ, List.getElem?_cons_zero, Option.some.injEq] at ho; subst ho; intro K hK
    go_simp
    go_at_call 27
    (with_reducible refine (HDG.out _ HBa.out).mono ?_)
    rintro e wc ⟨rfl, hb⟩
    (have HBc := hidH (HBa.out.trans (hb.mono HBa.out.size)))
    (have f0 := (hb.cell (p := ⟨xb, xo + k * 2, none⟩) (cell_blk _ _ _ g0)).trans g0)
    (have f1 := (hb.cell (p := ⟨xb, xo + k * 2 + 1, none⟩) (cell_blk _ _ _ g1)).trans g1)
    (have f2 := (hb.cell (p := ⟨zb, zo + k * 2, none⟩) (cell_blk _ _ _ g2)).trans g2)
    (have f3 := (hb.cell (p := ⟨zb, zo + q1 * 2, none⟩) (cell_blk _ _ _ g3)).trans g3)
    (clear hb hHeld)
    go_wp2_with fail
    refine hK.out _ _ ?_ (fun hHeld => ?_)
    · exact ⟨f0, f1, f2, f3⟩
    clear hK K
    try simp only [Act.put, List.setIfInBounds_toArray, List.set_cons_zero, List.set_cons_succ]
    refine onG 25 (some 93) (v := .bool true) (by kernel_rfl) (by kernel_rfl) (by kernel_rfl) (fun _ _ _ h => h) (by rfl) hHeld ?hy54_ ?rest54_
    case hy54_ =>
      intro o ho; simp only [List.getElem?_toArray, List.getElem?_cons_succ, List.getElem?_cons_zero, Option.some.injEq] at ho; subst ho; intro w hSw; (try dsimp only at hSw)
      go_simp
      all_goals (first | done | (simp; done) | (simp; omega))
    case rest54_ =>
    try simp only [Act.put, List.setIfInBounds_toArray, List.set_cons_zero, List.set_cons_succ]
    refine onG 26 (some 94) (v := .bool true) (by kernel_rfl) (by kernel_rfl) (by kernel_rfl) (fun _ _ _ h => h) (by rfl) hHeld ?hy55_ ?rest55_
    case hy55_ =>
      intro o ho; simp only [List.getElem?_toArray, List.getElem?_cons_succ, List.getElem?_cons_zero, Option.some.injEq] at ho; subst ho; intro w hSw; (try dsimp only at hSw)
      go_simp
      all_goals (first | done | (simp; done) | (simp; omega))
    case rest55_ =>
    try simp only [Act.put, List.setIfInBounds_toArray, List.set_cons_zero, List.set_cons_succ]
    refine onG 27 (some 95) (v := .bool true) (by kernel_rfl) (by kernel_rfl) (by kernel_rfl) (fun _ _ _ h => h) (by rfl) hHeld ?hy56_ ?rest56_
    case hy56_ =>
      intro o ho; simp only [List.getElem?_toArray, List.getElem?_cons_succ, List.getElem?_cons_zero, Option.some.injEq] at ho; subst ho; intro w hSw; (try dsimp only at hSw)
      go_simp
      all_goals (first | done | (simp; done) | (simp; omega))
    case rest56_ =>
    try simp only [Act.put, List.setIfInBounds_toArray, List.set_cons_zero, List.set_cons_succ]
    refine onG 28 (some 96) (v := ?v57_) (by kernel_rfl) (by kernel_rfl) (by kernel_rfl) (fun _ _ _ h => h) (by rfl) hHeld ?hy57_ ?rest57_
    case hy57_ =>
      intro o ho; simp only [List.getElem?_toArray, List.getElem?_cons_succ, List.getElem?_cons_zero, Option.some.injEq] at ho; subst ho; intro w hSw; (try dsimp only at hSw)
      go_simp
      try with_reducible rfl
    case rest57_ =>
    try simp only [Act.put, List.setIfInBounds_toArray, List.set_cons_zero, List.set_cons_succ]
    refine onG 29 (some 97) (v := ?v58_) (by kernel_rfl) (by kernel_rfl) (by kernel_rfl) (fun _ _ _ h => h) (by rfl) hHeld ?hy58_ ?rest58_
    case hy58_ =>
      intro o ho; simp only [List.getElem?_toArray, List.getElem?_cons_succ, List.getElem?_cons_zero, Option.some.injEq] at ho; subst ho; intro w hSw; (try dsimp only at hSw)
      go_simp
      try with_reducible rfl
    case rest58_ =>
    try simp only [Act.put, List.setIfInBounds_toArray, List.set_cons_zero, List.set_cons_succ]
    refine onG 30 (some 98) (v := ?v59_) (by kernel_rfl) (by kernel_rfl) (by kernel_rfl) (fun _ _ _ h => h) (by rfl) hHeld ?hy59_ ?rest59_
    case hy59_ =>
      intro o ho; simp only [List.getElem?_toArray, List.getElem?_cons_succ, List.getElem?_cons_zero, Option.some.injEq] at ho; subst ho; intro w hSw; (try dsimp only at hSw)
      go_simp
      try with_reducible rfl
    case rest59_ =>
    try simp only [Act.put, List.setIfInBounds_toArray, List.set_cons_zero, List.set_cons_succ]
    refine onG 31 (some 99) (v := ?v60_) (by kernel_rfl) (by kernel_rfl) (by kernel_rfl) (fun _ _ _ h => h) (by rfl) hHeld ?hy60_ ?rest60_
    case hy60_ =>
      intro o ho; simp only [List.getElem?_toArray, List.getElem?_cons_succ, List.getElem?_cons_zero, Option.some.injEq] at ho; subst ho; intro w hSw; (try dsimp only at hSw)
      go_simp
      try with_reducible rfl
    case rest60_ =>
    try simp only [Act.put, List.setIfInBounds_toArray, List.set_cons_zero, List.set_cons_succ]
    refine onG 32 (some 100) (v := ?v61_) (by kernel_rfl) (by kernel_rfl) (by kernel_rfl) (fun _ _ _ h => h) (by rfl) hHeld ?hy61_ ?rest61_
    case hy61_ =>
      intro o ho; simp only [List.getElem?_toArray, List.getElem?_cons_succ, List.getElem?_cons_zero, Option.some.injEq] at ho; subst ho; intro w hSw; (try dsimp only at hSw)
      go_simp
      try with_reducible rfl
    case rest61_ =>
    try simp only [Act.put, List.setIfInBounds_toArray, List.set_cons_zero, List.set_cons_succ]
    refine onG 33 (some 101) (v := ?v62_) (by kernel_rfl) (by kernel_rfl) (by kernel_rfl) (fun _ _ _ h => h) (by rfl) hHeld ?hy62_ ?rest62_
    case hy62_ =>
      intro o ho; simp only [List.getElem?_toArray, List.getElem?_cons_succ, List.getElem?_cons_zero, Option.some.injEq] at ho; subst ho; intro w hSw; (try dsimp only at hSw)
      go_simp
      try with_reducible rfl
    case rest62_ =>
    try simp only [Act.put, List.setIfInBounds_toArray, List.set_cons_zero, List.set_cons_succ]
    refine onG 34 (some 102) (v := ?v63_) (by kernel_rfl) (by kernel_rfl) (by kernel_rfl) (fun _ _ _ h => h) (by rfl) hHeld ?hy63_ ?rest63_
    case hy63_ =>
      intro o ho; simp only [List.getElem?_toArray, List.getElem?_cons_succ, List.getElem?_cons_zero, Option.some.injEq] at ho; subst ho; intro w hSw; (try dsimp only at hSw)
      go_simp
      try with_reducible rfl
    case rest63_ =>
    try simp only [Act.put, List.setIfInBounds_toArray, List.set_cons_zero, List.set_cons_succ]
    refine onG 35 (some 103) (v := ?v64_) (by kernel_rfl) (by kernel_rfl) (by kernel_rfl) (fun _ _ _ h => h) (by rfl) hHeld ?hy64_ ?rest64_
    case hy64_ =>
      intro o ho; simp only [List.getElem?_toArray, List.getElem?_cons_succ, List.getElem?_cons_zero, Option.some.injEq] at ho; subst ho; intro w hSw; (try dsimp only at hSw)
      go_simp
      try with_reducible rfl
    case rest64_ =>
    try simp only [Act.put, List.setIfInBounds_toArray, List.set_cons_zero, List.set_cons_succ]
    refine onG 36 (some 104) (v := ?v65_) (by kernel_rfl) (by kernel_rfl) (by kernel_rfl) (fun _ _ _ h => h) (by rfl) hHeld ?hy65_ ?rest65_
    case hy65_ =>
      intro o ho; simp only [List.getElem?_toArray, List.getElem?_cons_succ, List.getElem?_cons_zero, Option.some.injEq] at ho; subst ho; intro w hSw; (try dsimp only at hSw)
      go_simp
      try with_reducible rfl
    case rest65_ =>
    try simp only [Act.put, List.setIfInBounds_toArray, List.set_cons_zero, List.set_cons_succ]
    refine onG 37 (some 105) (v := ?v66_) (by kernel_rfl) (by kernel_rfl) (by kernel_rfl) (fun _ _ _ h => h) (by rfl) hHeld ?hy66_ ?rest66_
    case hy66_ =>
      intro o ho; simp only [List.getElem?_toArray, List.getElem?_cons_succ, List.getElem?_cons_zero, Option.some.injEq] at ho; subst ho; intro w hSw; (try dsimp only at hSw)
      go_simp
      try with_reducible rfl
    case rest66_ =>
    try simp only [Act.put, List.setIfInBounds_toArray, List.set_cons_zero, List.set_cons_succ]
    refine onG 38 (some 106) (v := ?v67_) (by kernel_rfl) (by kernel_rfl) (by kernel_rfl) (fun _ _ _ h => h) (by rfl) hHeld ?hy67_ ?rest67_
    case hy67_ =>
      intro o ho; simp only [List.getElem?_toArray, List.getElem?_cons_succ, List.getElem?_cons_zero, Option.some.injEq] at ho; subst ho; intro w hSw; (try dsimp only at hSw)
      go_simp
      try with_reducible rfl
    case rest67_ =>
    try simp only [Act.put, List.setIfInBounds_toArray, List.set_cons_zero, List.set_cons_succ]
    refine onG 39 (some 107) (v := ?v68_) (by kernel_rfl) (by kernel_rfl) (by kernel_rfl) (fun _ _ _ h => h) (by rfl) hHeld ?hy68_ ?rest68_
    case hy68_ =>
      intro o ho; simp only [List.getElem?_toArray, List.getElem?_cons_succ, List.getElem?_cons_zero, Option.some.injEq] at ho; subst ho; intro w hSw; (try dsimp only at hSw)
      go_simp
      try with_reducible rfl
    case rest68_ =>
    try simp only [Act.put, List.setIfInBounds_toArray, List.set_cons_zero, List.set_cons_succ]
    refine onG 40 (some 108) (v := ?v69_) (by kernel_rfl) (by kernel_rfl) (by kernel_rfl) (fun _ _ _ h => h) (by rfl) hHeld ?hy69_ ?rest69_
    case hy69_ =>
      intro o ho; simp only [List.getElem?_toArray, List.getElem?_cons_succ, List.getElem?_cons_zero, Option.some.injEq] at ho; subst ho; intro w hSw; (try dsimp only at hSw)
      go_simp
      try with_reducible rfl
    case rest69_ =>
    try simp only [Act.put, List.setIfInBounds_toArray, List.set_cons_zero, List.set_cons_succ]
    refine onG 41 (some 109) (v := ?v70_) (by kernel_rfl) (by kernel_rfl) (by kernel_rfl) (fun _ _ _ h => h) (by rfl) hHeld ?hy70_ ?rest70_
    case hy70_ =>
      intro o ho; simp only [List.getElem?_toArray, List.getElem?_cons_succ, List.getElem?_cons_zero, Option.some.injEq] at ho; subst ho; intro w hSw; (try dsimp only at hSw)
      go_simp
      try with_reducible rfl
    case rest70_ =>
    try simp only [Act.put, List.setIfInBounds_toArray, List.set_cons_zero, List.set_cons_succ]
    refine onG 42 (some 110) (v := ?v71_) (by kernel_rfl) (by kernel_rfl) (by kernel_rfl) (fun _ _ _ h => h) (by rfl) hHeld ?hy71_ ?rest71_
    case hy71_ =>
      intro o ho; simp only [List.getElem?_toArray, List.getElem?_cons_succ, List.getElem?_cons_zero, Option.some.injEq] at ho; subst ho; intro w hSw; (try dsimp only at hSw)
      go_simp
      try with_reducible rfl
    case rest71_ =>
    try simp only [Act.put, List.setIfInBounds_toArray, List.set_cons_zero, List.set_cons_succ]
    refine onG 43 (some 111) (v := ?v72_) (by kernel_rfl) (by kernel_rfl) (by kernel_rfl) (fun _ _ _ h => h) (by rfl) hHeld ?hy72_ ?rest72_
    case hy72_ =>
      intro o ho; simp only [List.getElem?_toArray, List.getElem?_cons_succ, List.getElem?_cons_zero, Option.some.injEq] at ho; subst ho; intro w hSw; (try dsimp only at hSw)
      go_simp
      try with_reducible rfl
    case rest72_ =>
    try simp only [Act.put, List.setIfInBounds_toArray, List.set_cons_zero, List.set_cons_succ]
    refine onG 44 (some 112) (v := ?v73_) (by kernel_rfl) (by kernel_rfl) (by kernel_rfl) (fun _ _ _ h => h) (by rfl) hHeld ?hy73_ ?rest73_
    case hy73_ =>
      intro o ho; simp only [List.getElem?_toArray, List.getElem?_cons_succ, List.getElem?_cons_zero, Option.some.injEq] at ho; subst ho; intro w hSw; (try dsimp only at hSw)
      go_simp
      try with_reducible rfl
    case rest73_ =>
    try simp only [Act.put, List.setIfInBounds_toArray, List.set_cons_zero, List.set_cons_succ]
    refine onG 45 (some 113) (v := .bool true) (by kernel_rfl) (by kernel_rfl) (by kernel_rfl) (fun _ _ _ h => h) (by rfl) hHeld ?hy74_ ?rest74_
    case hy74_ =>
      intro o ho; simp only [List.getElem?_toArray, List.getElem?_cons_succ, List.getElem?_cons_zero, Option.some.injEq] at ho; subst ho; intro w hSw; (try dsimp only at hSw)
      go_simp
      all_goals (first | done | (simp; done) | (simp; omega))
    case rest74_ =>
    try simp only [Act.put, List.setIfInBounds_toArray, List.set_cons_zero, List.set_cons_succ]
    refine onG 46 (some 114) (v := .bool true) (by kernel_rfl) (by kernel_rfl) (by kernel_rfl) (fun _ _ _ h => h) (by rfl) hHeld ?hy75_ ?rest75_
    case hy75_ =>
      intro o ho; simp only [List.getElem?_toArray, List.getElem?_cons_succ, List.getElem?_cons_zero, Option.some.injEq] at ho; subst ho; intro w hSw; (try dsimp only at hSw)
      go_simp
      all_goals (first | done | (simp; done) | (simp; omega))
    case rest75_ =>
    try simp only [Act.put, List.setIfInBounds_toArray, List.set_cons_zero, List.set_cons_succ]
    refine onG 47 (some 2) (v := ?v76_) (by kernel_rfl) (by kernel_rfl) (by kernel_rfl) (fun _ _ _ h => h) (by rfl) hHeld ?hy76_ ?rest76_
    case hy76_ =>
      intro o ho; simp only [List.getElem?_toArray, List.getElem?_cons_succ, List.getElem?_cons_zero, Option.some.injEq] at ho; subst ho; intro w hSw; (try dsimp only at hSw)
      go_simp
      try with_reducible rfl
    case rest76_ =>
    try simp only [Act.put, List.setIfInBounds_toArray, List.set_cons_zero, List.set_cons_succ]
    refine wpAnyH_done (by kernel_rfl) ?_ _
    go_wp2_with fail
    go_ret
    exact ⟨rfl, B6.out.trans (HBc.out.mono B6.out.size)⟩
end Go.Proofs.Ytgnoclnenhmakaa
namespace Go.Proofs.Ytgnoclnenhmakaa
set_option maxRecDepth 4000
open Go.RowKit
set_option maxHeartbeats 3200000 in
theorem drawSplitSegs (a : Option Addr) (len cap : Nat) (w : World) (hc : Came w a len cap) (hl : len ≤ 1048576) : Calls Try.prog 21 #[.slice a len cap] w (DrawPid w) := by
  have HO := hidH (opened_any a len cap w hc hl)
  clear hc
  go_enter Try.func21, Try.ntmps21
  go_wp2_with fail
  refine HO.out.mono ?_
  rintro e w1 ⟨rfl, hR, hB⟩
  have R1 := hidH hR
  have B1 := hidH hB
  have s1 := hB.size
  have hr1 := hR.lt
  clear hR hB HO
  go_wp2_with fail
  refine (plan5_any w.heap.size 0 w1 R1.out (by omega)).mono ?_
  rintro e w2 ⟨v, cs, rfl, hP, h1, h61, h7, hR, hO⟩
  have R2 := hidH hR
  have O2 := hidH hO
  have P2 := hidH hP
  have H7c := hidH h7
  obtain ⟨va, vc, rfl, _, hvm⟩ := hP.form
  clear hP hR hO h7 hvm R1
  go_wp2_with fail
  refine (pick_any ((cs.length : Int) + 1) w.heap.size _ w2 R2.out (by omega)).mono ?_
  rintro e w3 ⟨i, rfl, y0, y1, hR, hO⟩
  have R3 := hidH hR
  have O3 := hidH (O2.out.trans hO)
  have P3 := hidH ((P2.out.onto hO (by omega)).mono (Nat.le_refl _) hO.size)
  clear y0 y1 hR hO R2 O2 P2
  go_wp2_with fail
  refine (pick_any 5 w.heap.size _ w3 R3.out (by omega)).mono ?_
  rintro e w4 ⟨m, rfl, y0, y1, hR, hO⟩
  have y2 := y1 (by omega)
  have R4 := hidH hR
  have O4 := hidH (O3.out.trans hO)
  have P4 := hidH ((P3.out.onto hO (by omega)).mono (Nat.le_refl _) hO.size)
  clear y1 hR hO R3 O3 P3
  go_wp2_with fail
  refine (pick_any 16 w.heap.size _ w4 R4.out (by omega)).mono ?_
  rintro e wt ⟨t, rfl, z0, z1, hR, hO⟩
  have Rt := hidH hR
  have Ot := hidH (O4.out.trans hO)
  have Pt := hidH ((P4.out.onto hO (by omega)).mono (Nat.le_refl _) hO.size)
  clear z0 z1 hR hO
  by_cases t0 : t = 0
  · subst t0
    go_wp2_with fail
    have hN := num_any wt.heap.size 0 [-1, 9223372036854775807] w.heap.size _ (wt.alloc (.cells (intC [-1, 9223372036854775807]) 3)) (Rt.out.onto ((Below.refl _ _).alloc (Nat.le_refl _) _)) (by omega) (by first | decide | exact Nat.succ_pos _) (by first | decide | exact (show 2 ≤ 1000 from by decide)) (ints_new _ _ _ _ Rt.out.lt)
    refine hN.mono ?_
    rintro e wu ⟨i2, hz, rfl, hR, hO⟩
    have hO' := ((Onto.refl w.heap.size wt).alloc (.cells (intC [-1, 9223372036854775807]) 3)).trans hO
    have Ru := hidH hR
    have Ou := hidH (Ot.out.trans hO')
    have Pu := hidH ((Pt.out.onto hO' (by omega)).mono (Nat.le_refl _) hO'.size)
    clear hN hR hO hO' hz
    go_wp2_with fail
    refine (bad5_any w.heap.size _ w1.heap.size w.heap.size _ cs wu Pu.out Ru.out (by omega) (by omega) (Nat.le_refl _) h1 h61 H7c.out).mono ?_
    rintro e wb ⟨v, es, rfl, hL, k61, k7, hR, hB⟩
    have Lb := hidH (hL wb (Onto.refl _ _))
    have Bb := hidH ((B1.out.trans (Ou.out.below (Nat.le_refl _) s1)).trans hB)
    have K7 := hidH k7
    obtain ⟨vab, vcb, rfl, _, hvm⟩ := Lb.out.len
    clear hL hR hB k7 hvm
    go_wp2_with fail
    ((try simp only [Exit.inBlock, Exit.then]); refine bodyPost_ret (results_tmp3 rfl _ _ _) rfl ?_)
    exact ⟨_, es, i2, 1 + m, rfl, Lb.out, k61, K7.out, Bb.out⟩
  · have b0 : (t == 0) = false := beq_eq_false_iff_ne.2 t0
    clear t0
    go_wp2_with fail
    refine (bad5_any w.heap.size _ w1.heap.size w.heap.size _ cs wt Pt.out Rt.out (by omega) (by omega) (Nat.le_refl _) h1 h61 H7c.out).mono ?_
    rintro e wb ⟨v, es, rfl, hL, k61, k7, hR, hB⟩
    have Lb := hidH (hL wb (Onto.refl _ _))
    have Bb := hidH ((B1.out.trans (Ot.out.below (Nat.le_refl _) s1)).trans hB)
    have K7 := hidH k7
    obtain ⟨vab, vcb, rfl, _, hvm⟩ := Lb.out.len
    clear hL hR hB k7 hvm
    go_wp2_with fail
    ((try simp only [Exit.inBlock, Exit.then]); refine bodyPost_ret (results_tmp3 rfl _ _ _) rfl ?_)
    exact ⟨_, es, i, 1 + m, rfl, Lb.out, k61, K7.out, Bb.out⟩
theorem shiftL_none5 (ps : List Int) : shiftL ps 0 ps.length = ps := by
  apply List.ext_getElem?
  intro k
  by_cases hk : k < ps.length
  · rw [shiftL_get ps 0 ps.length k hk, List.drop_eq_getElem_cons hk, evP_zero, List.getElem?_eq_getElem hk]
  · rw [List.getElem?_eq_none (by rw [shiftL_length]; omega), List.getElem?_eq_none (by omega)]
theorem ev_high (n : Nat) (q : List Int) (k : Nat) (h : n < k) : ev (n : Int) q k = 0 := by
  induction q generalizing k with
  | nil => rfl
  | cons x q ih =>
    have e := ev_append (n : Int) [x] q k
    have e2 := ev_snoc (n : Int) [] x k
    simp only [List.nil_append, List.length_nil, Nat.add_zero] at e2
    rw [show x :: q = [x] ++ q from rfl, e, e2, chN_low n k h, ih (k + [x].length) (by simp; omega)]
    simp [ev]
theorem vals_cut (P : List Int) (c : Nat) : vals (P.take c) 0 c = vals P 0 c := by
  apply List.ext_getElem?
  intro i
  by_cases hi : i < c
  · rw [vals_get _ _ _ _ hi, vals_get _ _ _ _ hi, Int.zero_add]
    congr 1
    unfold evP
    by_cases hc : c ≤ P.length
    · conv => rhs; rw [← List.take_append_drop c P]
      rw [ev_append, ev_high i (P.drop c) _ (by rw [Nat.zero_add, List.length_take]; omega), Int.add_zero]
    · rw [List.take_of_length_le (by omega)]
  · rw [List.getElem?_eq_none (by rw [vals_length]; omega), List.getElem?_eq_none (by rw [vals_length]; omega)]
/-- The values of a polynomial have a run of the greatest degree. -/
theorem vals_run {P : List Int} {c : Nat} (hp : polyOk P = true) (h1 : 1 ≤ c) (h60 : c ≤ 60) (ht : tableOk (vals P 0 c) = true) : runB (vals P 0 c) 6 = true := by
  obtain ⟨p1, p7, px⟩ := (listOk_iff 7 100000 P).1 hp
  have hq : polyOk (P.take c) = true := (listOk_iff 7 100000 _).2 ⟨by rw [List.length_take]; omega, by rw [List.length_take]; omega, fun x hx => px x (List.mem_of_mem_take hx)⟩
  have hi := (inter_vals (P.take c) 0 c hq (by rw [List.length_take]; omega) (by omega) (by omega) (by rw [vals_cut]; exact ht) (by rw [shiftL_none5]; exact hq)).1
  rw [vals_cut] at hi
  unfold runB
  rw [hi, Bool.and_true]
  have hio : interOk (vals P 0 c) = true := by unfold interB at hi; rw [Bool.and_eq_true] at hi; exact hi.1
  exact decide_eq_true (inter_bd _ hio).2.2.2.2.1
/-- What a plan of which a segment is split is. -/
theorem split_good {cs : List (Int × List Int)} {i a : Int} (h : splitB cs i a = true) : planOk cs = true ∧ planOk (splitA cs i a) = true ∧ planL (splitA cs i a) = planL cs ∧ (splitA cs i a).length = cs.length + 1 ∧ joinB (splitA cs i a) i 6 = true := by
  have h' := h
  unfold splitB splitOk at h'
  rw [Bool.and_eq_true, Bool.and_eq_true, Bool.and_eq_true, decide_eq_true_eq, decide_eq_true_eq] at h'
  obtain ⟨⟨hp, hi, ha⟩, hs⟩ := h'
  obtain ⟨k, rfl⟩ : ∃ k : Nat, i = (k : Int) := ⟨i.toNat, by omega⟩
  have hk : k < cs.length := by omega
  rw [Int.toNat_natCast, List.getD_eq_getElem?_getD, List.getElem?_eq_getElem hk, Option.getD_some] at ha hs
  obtain ⟨c, P, hcp⟩ : ∃ c P, cs[k] = (c, P) := ⟨cs[k].1, cs[k].2, rfl⟩
  have hx : cs[k]? = some (c, P) := by rw [List.getElem?_eq_getElem hk, hcp]
  rw [hcp] at ha hs
  have ha' : 1 ≤ a ∧ a < c := ha
  have hs' : shiftB P a = true := hs
  obtain ⟨_, _, e3⟩ := splitB_at hp hx ha'
  have hja := e3 hs'
  have hpp := planOk_parts hp
  have hseg := List.all_eq_true.1 hpp.2.2.1 (c, P) (List.mem_of_getElem? hx)
  obtain ⟨q1, q2, q3, q4⟩ := segOk_parts hseg
  have q2 : 1 ≤ c := q2
  have q3 : c ≤ 60 := q3
  have q1 : polyOk P = true := q1
  have q4 : tableOk (vals P 0 c.toNat) = true := q4
  obtain ⟨m, rfl⟩ : ∃ m : Nat, a = (m : Int) := ⟨a.toNat, by omega⟩
  obtain ⟨n, rfl⟩ : ∃ n : Nat, c = (n : Int) := ⟨c.toNat, by omega⟩
  rw [Int.toNat_natCast] at q4
  have hsh : shiftA P (m : Int) = shiftL P (m : Int) P.length ∧ polyOk (shiftA P (m : Int)) = true := by
    unfold shiftB at hs'
    rw [Bool.and_eq_true] at hs'
    have e : shiftA P (m : Int) = shiftL P (m : Int) P.length := by
      unfold shiftA
      rw [hs'.1, if_pos rfl]
      unfold resL
      rw [hs'.2, if_pos rfl]
    exact ⟨e, by rw [e]; exact hs'.2⟩
  have hcat : vals P 0 m ++ vals (shiftA P (m : Int)) 0 (n - m) = vals P 0 n := by
    apply List.ext_getElem?
    intro j
    by_cases hj : j < m
    · rw [List.getElem?_append_left (by rw [vals_length]; exact hj), vals_get _ _ _ _ hj, vals_get _ _ _ _ (by omega)]
    · rw [List.getElem?_append_right (by rw [vals_length]; omega), vals_length]
      by_cases hjn : j < n
      · rw [vals_get _ _ _ _ (by omega), vals_get _ _ _ _ hjn, hsh.1, ev_shift]
        congr 2
        omega
      · rw [List.getElem?_eq_none (by rw [vals_length]; omega), List.getElem?_eq_none (by rw [vals_length]; omega)]
  have hmn : ((n : Int) - (m : Int)) = ((n - m : Nat) : Int) := by omega
  have hv1 : segV ((m : Int), P) = vals P 0 m := by unfold segV; rw [Int.toNat_natCast]
  have hv2 : segV ((n : Int) - (m : Int), shiftA P (m : Int)) = vals (shiftA P (m : Int)) 0 (n - m) := by unfold segV; rw [hmn, Int.toNat_natCast]
  have hsub1 : tableOk (vals P 0 m) = true := by
    obtain ⟨_, t2, t3⟩ := (listOk_iff 60 1000000000 _).1 q4
    exact (listOk_iff 60 1000000000 _).2 ⟨by rw [vals_length]; omega, by rw [vals_length]; omega, fun x hx => t3 x (by rw [← hcat]; exact List.mem_append_left _ hx)⟩
  have hsub2 : tableOk (vals (shiftA P (m : Int)) 0 (n - m)) = true := by
    obtain ⟨_, t2, t3⟩ := (listOk_iff 60 1000000000 _).1 q4
    exact (listOk_iff 60 1000000000 _).2 ⟨by rw [vals_length]; omega, by rw [vals_length]; omega, fun x hx => t3 x (by rw [← hcat]; exact List.mem_append_right _ hx)⟩
  have hs1 : segOk ((m : Int), P) = true := by
    show (polyOk P && (decide ((1 : Int) ≤ (m : Int) ∧ (m : Int) ≤ 60) && tableOk (vals P 0 (m : Int).toNat))) = true
    rw [Int.toNat_natCast, hsub1, q1, decide_eq_true (by omega)]; rfl
  have hs2 : segOk ((n : Int) - (m : Int), shiftA P (m : Int)) = true := by
    show (polyOk (shiftA P (m : Int)) && (decide ((1 : Int) ≤ (n : Int) - (m : Int) ∧ (n : Int) - (m : Int) ≤ 60) && tableOk (vals (shiftA P (m : Int)) 0 ((n : Int) - (m : Int)).toNat))) = true
    rw [hmn, Int.toNat_natCast, hsub2, hsh.2, decide_eq_true (by omega)]; rfl
  have hL : planL (splitA cs (k : Int) (m : Int)) = planL cs := by
    rw [hja]
    have e2 : planL cs = planL (cs.take k) ++ (segV ((n : Int), P) ++ planL (cs.drop (k + 1))) := by
      conv => lhs; rw [← List.take_append_drop (k + 1) cs]
      unfold planL
      rw [List.flatMap_append, ← List.append_assoc]
      congr 1
      exact planL_snoc cs k _ hx
    rw [e2]
    unfold planL
    rw [List.flatMap_append, List.flatMap_append, List.append_assoc]
    congr 1
    congr 1
    have hv3 : segV ((n : Int), P) = vals P 0 n := by unfold segV; rw [Int.toNat_natCast]
    rw [hv3, ← hcat]
    simp [hv1, hv2]
  have hok : planOk (splitA cs (k : Int) (m : Int)) = true := by
    unfold planOk
    rw [hL, planL_tot, decide_eq_true hpp.2.2.2.2, hja, decide_eq_true (by simp; omega), Bool.and_true, Bool.true_and]
    refine List.all_eq_true.2 fun s hs => ?_
    rw [List.mem_append, List.mem_append] at hs
    rcases hs with (hs | hs) | hs
    · exact List.all_eq_true.1 hpp.2.2.1 s (List.mem_of_mem_take hs)
    · simp at hs
      rcases hs with hs | hs
      · rw [hs]; exact hs1
      · rw [hs]; exact hs2
    · exact List.all_eq_true.1 hpp.2.2.1 s (List.mem_of_mem_drop hs)
  have hlen : (splitA cs (k : Int) (m : Int)).length = cs.length + 1 := by rw [hja]; simp; omega
  refine ⟨hp, hok, hL, hlen, ?_⟩
  have hV : joinV (splitA cs (k : Int) (m : Int)) k = vals P 0 n := by
    unfold joinV
    rw [hja, List.append_assoc, List.drop_append_of_le_length (by rw [List.length_take]; omega), List.drop_eq_nil_of_le (by rw [List.length_take]; omega)]
    rw [← hcat]
    unfold planL
    simp [hv1, hv2]
  rw [(joinB_at 6 hok (by omega)).1, hV, vals_run q1 (by omega) (by omega) q4]
  decide
set_option maxHeartbeats 6400000 in
theorem lawSplitJoin (a : Option Addr) (len cap : Nat) (w : World) (hc : Came w a len cap) : Calls Try.prog 6 #[.slice a len cap] w (Gives (.bool true) w) := by
  have HC := hidH hc
  have hc1 := hc.lenLe
  have hc2 := hc.capLe
  unfold maxLen at hc2
  by_cases hbig : 1048576 < len
  · go_enter Try.func6, Try.ntmps6
    go_wp2
    go_ret
    exact ⟨rfl, Below.refl _ _⟩
  have hsm : len ≤ 1048576 := by omega
  clear hbig hc
  go_enter Try.func6, Try.ntmps6
  have B0 := hidH (Below.refl w.heap.size w)
  go_wp2_with fail
  refine (drawSplitSegs a len cap _ HC.out hsm).mono ?_; rintro e w1 ⟨v, cs, i, d, rfl, hz, hl61, hp7, hb⟩
  have B1 := hidH (bThen B0.out hb)
  have s1 := hb.size
  have LZ_1 := hidH hz
  clear hb B0  hz
  have HP7 := hidH (fun (c : Int) (zs : List Int) (h : (c, zs) ∈ cs) => show zs.length ≤ 1048576 from by have := hp7 c zs h; omega)
  clear hp7
  obtain ⟨za, zcap, rfl, zc1, zc2⟩ := LZ_1.out.len
  unfold maxLen at zc2
  obtain ⟨hjl, _⟩ := splitA_len cs i d
  cases hok : splitB cs i d
  · have HT := hidH hok
    clear hok
    go_wp2_with fail
    refine (split_any _ cs i d _ _ LZ_1.out (by omega)).mono ?_; rintro e w2 ⟨p, rfl, hr, hb⟩
    rw [HT.out]
    have B2 := hidH (bThen B1.out hb)
    have s2 := hb.size
    have LZ_2 := hidH (LZ_1.out.below hb)
    have X_2 := hidH hr
    clear hb B1 LZ_1 hr
    obtain ⟨pa, pcap, rfl, hpl, hpc⟩ := X_2.out.form
    unfold maxLen at hpc
    go_wp2_with fail
    refine (sSplit_any _ cs i d _ _ LZ_2.out (by omega) HP7.out).mono ?_; rintro e w3 ⟨q, rfl, hr, hb⟩
    rw [HT.out]
    have B3 := hidH (bThen B2.out hb)
    have s3 := hb.size
    have LZ_3 := hidH (LZ_2.out.below hb)
    have X_3 := hidH (X_2.out.below hb)
    have Q_3 := hidH hr
    clear hb B2 LZ_2 X_2 hr
    obtain ⟨qa, qcap, rfl, hql, hqc⟩ := Q_3.out.form
    unfold maxLen at hqc
    generalize splitA cs i d = gs at *
    go_wp2_with fail
    refine (dePlans_yes _ _ gs _ _ _ X_3.out.lies Q_3.out.lies (by omega)).mono ?_; rintro e w4 ⟨rfl, hb⟩
    have B4 := hidH (bThen B3.out hb)
    have s4 := hb.size
    have LZ_4 := hidH (LZ_3.out.below hb)
    have X_4 := hidH (X_3.out.below hb)
    have Q_4 := hidH (Q_3.out.below hb)
    clear hb B3 LZ_3 X_3 Q_3
    go_wp2_with fail
    refine (dePlans_yes _ _ gs _ _ _ X_4.out.lies Q_4.out.lies (by omega)).mono ?_; rintro e w5 ⟨rfl, hb⟩
    have B5 := hidH (bThen B4.out hb)
    have s5 := hb.size
    have LZ_5 := hidH (LZ_4.out.below hb)
    have X_5 := hidH (X_4.out.below hb)
    have Q_5 := hidH (Q_4.out.below hb)
    clear hb B4 LZ_4 X_4 Q_4
    go_wp2_with fail
    go_ret
    exact ⟨rfl, B5.out⟩
  · have HT := hidH hok
    obtain ⟨j1, j2, j3, j4, j5⟩ := split_good hok
    obtain ⟨k9, e9, f1, f2, f3, g2, g3, g4, f4⟩ := join_good j5
    clear e9 f1 f2 f3 f4
    have HJ1 := hidH j1
    have HJ2 := hidH j2
    have HJ4 := hidH j4
    have HJ5 := hidH j5
    have HG2 := hidH g2
    have HG4 := hidH g4
    have HPA := hidH (show planA cs = planL cs by unfold planA; rw [j1, if_pos rfl])
    have HPB := hidH (show planA (splitA cs i d) = planL cs by unfold planA; rw [j2, if_pos rfl, j3])
    have HPC := hidH (show planA (joinA (splitA cs i d) i 6) = planL cs by unfold planA; rw [g2, if_pos rfl, g3, j3])
    obtain ⟨hjl2, _⟩ := joinA_len (splitA cs i d) i 6
    clear hok j1 j2 j3 j4 j5 g2 g3 g4
    go_wp2_with fail
    refine (split_any _ cs i d _ _ LZ_1.out (by omega)).mono ?_; rintro e w2 ⟨p, rfl, hr, hb⟩
    rw [HT.out]
    have B2 := hidH (bThen B1.out hb)
    have s2 := hb.size
    have LZ_2 := hidH (LZ_1.out.below hb)
    have X_2 := hidH hr
    clear hb B1 LZ_1 hr
    obtain ⟨pa, pcap, rfl, hpl, hpc⟩ := X_2.out.form
    unfold maxLen at hpc
    go_wp2_with fail
    refine (sSplit_any _ cs i d _ _ LZ_2.out (by omega) HP7.out).mono ?_; rintro e w3 ⟨q, rfl, hr, hb⟩
    rw [HT.out]
    have B3 := hidH (bThen B2.out hb)
    have s3 := hb.size
    have LZ_3 := hidH (LZ_2.out.below hb)
    have X_3 := hidH (X_2.out.below hb)
    have Q_3 := hidH hr
    clear hb B2 LZ_2 X_2 hr
    obtain ⟨qa, qcap, rfl, hql, hqc⟩ := Q_3.out.form
    unfold maxLen at hqc
    generalize splitA cs i d = gs at *
    generalize hjj : joinA gs i 6 = js at *
    have HJJ := hidH hjj
    clear hjj
    go_wp2_with fail
    refine (dePlans_yes _ _ gs _ _ _ X_3.out.lies Q_3.out.lies (by omega)).mono ?_; rintro e w4 ⟨rfl, hb⟩
    have B4 := hidH (bThen B3.out hb)
    have s4 := hb.size
    have LZ_4 := hidH (LZ_3.out.below hb)
    have X_4 := hidH (X_3.out.below hb)
    have Q_4 := hidH (Q_3.out.below hb)
    clear hb B3 LZ_3 X_3 Q_3
    go_wp2_with fail
    refine (planValues_any _ cs _ _ LZ_4.out (by omega)).mono ?_; rintro e w5 ⟨r1, rfl, hr, hb⟩
    rw [HJ1.out]
    rw [HPA.out] at hr
    have B5 := hidH (bThen B4.out hb)
    have s5 := hb.size
    have LZ_5 := hidH (LZ_4.out.below hb)
    have X_5 := hidH (X_4.out.below hb)
    have Q_5 := hidH (Q_4.out.below hb)
    have R_5 := hidH hr
    clear hb B4 LZ_4 X_4 Q_4 hr
    obtain ⟨ra, rcap, rfl⟩ := R_5.out.some
    go_wp2_with fail
    refine (planValues_any _ gs _ _ X_5.out.lies (by omega)).mono ?_; rintro e w6 ⟨r2, rfl, hr, hb⟩
    rw [HJ2.out]
    rw [HPB.out] at hr
    have B6 := hidH (bThen B5.out hb)
    have s6 := hb.size
    have LZ_6 := hidH (LZ_5.out.below hb)
    have X_6 := hidH (X_5.out.below hb)
    have Q_6 := hidH (Q_5.out.below hb)
    have R_6 := hidH (R_5.out.below hb)
    have T_6 := hidH hr
    clear hb B5 LZ_5 X_5 Q_5 R_5 hr
    obtain ⟨ta, tcap, rfl⟩ := T_6.out.some
    go_wp2_with fail
    refine (join_any _ gs i 6 _ _ X_6.out.lies (by omega)).mono ?_; rintro e w7 ⟨y, rfl, hr, hb⟩
    rw [HJ5.out]
    rw [HJJ.out] at hr
    have B7 := hidH (bThen B6.out hb)
    have s7 := hb.size
    have LZ_7 := hidH (LZ_6.out.below hb)
    have X_7 := hidH (X_6.out.below hb)
    have Q_7 := hidH (Q_6.out.below hb)
    have R_7 := hidH (R_6.out.below hb)
    have T_7 := hidH (T_6.out.below hb)
    have Y_7 := hidH hr
    clear hb B6 LZ_6 X_6 Q_6 R_6 T_6 hr
    obtain ⟨ya, ycap, rfl, hyl, hyc⟩ := Y_7.out.form
    unfold maxLen at hyc
    go_wp2_with fail
    refine (deInts_yes _ _ (planL cs) _ _ _ _ _ R_7.out.lies T_7.out.lies).mono ?_; rintro e w8 ⟨rfl, hb⟩
    have B8 := hidH (bThen B7.out hb)
    have s8 := hb.size
    have LZ_8 := hidH (LZ_7.out.below hb)
    have X_8 := hidH (X_7.out.below hb)
    have Q_8 := hidH (Q_7.out.below hb)
    have R_8 := hidH (R_7.out.below hb)
    have T_8 := hidH (T_7.out.below hb)
    have Y_8 := hidH (Y_7.out.below hb)
    clear hb B7 LZ_7 X_7 Q_7 R_7 T_7 Y_7
    have hgl : (gs.length : Int) = (cs.length : Int) + 1 := by have := HJ4.out; omega
    skip
    go_wp2_with fail
    refine (planValues_any _ js _ _ Y_8.out.lies (by omega)).mono ?_; rintro e w9 ⟨r3, rfl, hr, hb⟩
    rw [HG2.out]
    rw [HPC.out] at hr
    have B9 := hidH (bThen B8.out hb)
    have s9 := hb.size
    have LZ_9 := hidH (LZ_8.out.below hb)
    have X_9 := hidH (X_8.out.below hb)
    have Q_9 := hidH (Q_8.out.below hb)
    have R_9 := hidH (R_8.out.below hb)
    have T_9 := hidH (T_8.out.below hb)
    have Y_9 := hidH (Y_8.out.below hb)
    have U_9 := hidH hr
    clear hb B8 LZ_8 X_8 Q_8 R_8 T_8 Y_8 hr
    obtain ⟨ua, ucap, rfl⟩ := U_9.out.some
    clear hgl
    go_wp2_with fail
    refine (deInts_yes _ _ (planL cs) _ _ _ _ _ U_9.out.lies R_9.out.lies).mono ?_; rintro e w10 ⟨rfl, hb⟩
    have B10 := hidH (bThen B9.out hb)
    have s10 := hb.size
    have LZ_10 := hidH (LZ_9.out.below hb)
    have X_10 := hidH (X_9.out.below hb)
    have Q_10 := hidH (Q_9.out.below hb)
    have R_10 := hidH (R_9.out.below hb)
    have T_10 := hidH (T_9.out.below hb)
    have Y_10 := hidH (Y_9.out.below hb)
    have U_10 := hidH (U_9.out.below hb)
    clear hb B9 LZ_9 X_9 Q_9 R_9 T_9 Y_9 U_9
    have hjl3 : (js.length : Int) = (cs.length : Int) := by have := HJ4.out; have := HG4.out; omega
    go_wp2_with fail
    go_ret
    exact ⟨rfl, B10.out⟩
end Go.Proofs.Ytgnoclnenhmakaa
