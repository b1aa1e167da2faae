/-
  JoinSegments: the program, at every argument. No conditions but that slices fit in memory.
-/
import Derived.Test.YtgnoclnenhmakaaSplD
import Derived.Test.YtgnoclnenhmakaaPolyAn
namespace Go.Proofs.Ytgnoclnenhmakaa
set_option maxRecDepth 4000
open Go.RowKit
theorem clean_run (zs : List Int) (d : Int) : (cleanB zs d && interB zs) = (degOk d && runB zs d) := by
  rw [cleanB_eq]
  unfold runB
  cases hi : interB zs
  · simp
  · have hio : interOk zs = true := by unfold interB at hi; rw [Bool.and_eq_true] at hi; exact hi.1
    have := (inter_bd zs hio).2.2.2.1
    rw [decide_eq_true this, Bool.and_true, Bool.and_true, Bool.true_and]
theorem LiesSg.cut {w : World} {hi b off n cap : Nat} {cs : List (Int × List Int)} (H : LiesSg w hi (.slice (some ⟨b, off, none⟩) n cap) cs) (k m c : Nat) (hk : k + m ≤ cs.length) (hc : m ≤ c) (hm : c ≤ maxLen) : LiesSg w hi (.slice (some ⟨b, off + k * 2, none⟩) m c) ((cs.drop k).take m) := by
  obtain ⟨a, cap', e, h2, h3, h4, h5⟩ := H
  injection e with e1 e2 e3
  subst e1
  have hl : ((cs.drop k).take m).length = m := by rw [List.length_take, List.length_drop]; omega
  refine ⟨some ⟨b, off + k * 2, none⟩, c, by rw [hl], by rw [hl]; exact hc, hm, (fun e => by cases e), fun j x zs hj => ?_⟩
  have hjm : j < m := by have := (List.getElem?_eq_some_iff.1 hj).1; omega
  rw [List.getElem?_take, if_pos hjm, List.getElem?_drop] at hj
  obtain ⟨b', off', u, e, hlt, c0, c1, hz⟩ := h5 (k + j) x zs hj
  injection e with e
  injection e with e1 e2
  subst e1 e2
  exact ⟨b, off + k * 2, u, rfl, hlt, by rw [show off + k * 2 + j * 2 = off + (k + j) * 2 by omega]; exact c0, by rw [show off + k * 2 + j * 2 + 1 = off + (k + j) * 2 + 1 by omega]; exact c1, hz⟩
/-- The values of two segments that are joined. -/
def joinV (cs : List (Int × List Int)) (k : Nat) : List Int := planL ((cs.drop k).take 2)
def joinB (cs : List (Int × List Int)) (i d : Int) : Bool := planOk cs && (decide (0 ≤ i ∧ i < (cs.length : Int) - 1) && (degOk d && runB (joinV cs i.toNat) d))
/-- What JoinSegments answers. -/
def joinA (cs : List (Int × List Int)) (i d : Int) : List (Int × List Int) := if joinB cs i d then cs.take i.toNat ++ [(((joinV cs i.toNat).length : Int), interA (joinV cs i.toNat))] ++ cs.drop (i.toNat + 2) else []
theorem joinB_no {cs : List (Int × List Int)} {i d : Int} (h : joinB cs i d = false) : joinA cs i d = [] := by unfold joinA; rw [h]; rfl
theorem joinB_no1 {cs : List (Int × List Int)} (i d : Int) (h : planOk cs = false) : joinB cs i d = false := by unfold joinB; rw [h]; rfl
theorem joinB_no2 (cs : List (Int × List Int)) {i : Int} (d : Int) (h : ¬ (0 ≤ i ∧ i < (cs.length : Int) - 1)) : joinB cs i d = false := by unfold joinB; rw [decide_eq_false h]; simp
theorem joinB_no3 (cs : List (Int × List Int)) (i : Int) {d : Int} (h : degOk d = false) : joinB cs i d = false := by unfold joinB; rw [h]; simp
theorem joinB_at {cs : List (Int × List Int)} {k : Nat} (d : Int) (hp : planOk cs = true) (hk : k + 2 ≤ cs.length) : joinB cs (k : Int) d = (degOk d && runB (joinV cs k) d) ∧ (joinB cs (k : Int) d = true → joinA cs (k : Int) d = cs.take k ++ [(((joinV cs k).length : Int), interA (joinV cs k))] ++ cs.drop (k + 2)) := by
  refine ⟨?_, fun h => ?_⟩
  · unfold joinB
    rw [hp, decide_eq_true (show 0 ≤ (k : Int) ∧ (k : Int) < (cs.length : Int) - 1 by omega), Int.toNat_natCast]; rfl
  · unfold joinA
    rw [h, if_pos rfl, Int.toNat_natCast]
theorem sub_two {cs : List (Int × List Int)} {k : Nat} (hk : k + 2 ≤ cs.length) : (cs.drop k).take 2 = [cs[k]'(by omega), cs[k + 1]'(by omega)] := by
  rw [List.drop_eq_getElem_cons (by omega), List.drop_eq_getElem_cons (by omega)]
  rfl
theorem sub_ok {cs : List (Int × List Int)} {k : Nat} (hp : planOk cs = true) (hk : k + 2 ≤ cs.length) : planOk ((cs.drop k).take 2) = true ∧ planA ((cs.drop k).take 2) = joinV cs k ∧ ((joinV cs k).length : Int) = (cs[k]'(by omega)).1 + (cs[k + 1]'(by omega)).1 ∧ (joinV cs k).length ≤ 60 := by
  obtain ⟨_, h60, hall, _, ht⟩ := planOk_parts hp
  obtain ⟨_, a1, a2, _⟩ := segOk_parts (List.all_eq_true.1 hall _ (List.getElem_mem (show k < cs.length by omega)))
  obtain ⟨_, b1, b2, _⟩ := segOk_parts (List.all_eq_true.1 hall _ (List.getElem_mem (show k + 1 < cs.length by omega)))
  have hL : (joinV cs k).length = (cs[k]'(by omega)).1.toNat + (cs[k + 1]'(by omega)).1.toNat := by
    unfold joinV
    rw [sub_two hk, planL_tot]
    simp [totN]
  have hle : (joinV cs k).length ≤ (planL cs).length := by
    have e : planL cs = planL (cs.take k) ++ (joinV cs k ++ planL ((cs.drop k).drop 2)) := by
      unfold joinV planL
      rw [← List.flatMap_append, List.take_append_drop, ← List.flatMap_append, List.take_append_drop]
    rw [e, List.length_append, List.length_append]
    omega
  rw [planL_tot cs] at hle
  have hok : planOk ((cs.drop k).take 2) = true := by
    unfold planOk
    rw [show planL ((cs.drop k).take 2) = joinV cs k from rfl, decide_eq_true (show (joinV cs k).length ≤ 60 by omega), decide_eq_true (show 1 ≤ ((cs.drop k).take 2).length by rw [sub_two hk]; simp), Bool.and_true, Bool.true_and]
    exact List.all_eq_true.2 fun s hs => List.all_eq_true.1 hall s (List.mem_of_mem_drop (List.mem_of_mem_take hs))
  exact ⟨hok, by unfold planA; rw [hok, if_pos rfl]; rfl, by omega, by omega⟩
theorem join_polys {cs : List (Int × List Int)} {k : Nat} {d : Int} (hp : planOk cs = true) (h : runB (joinV cs k) d = true) : ∀ e ys, (e, ys) ∈ cs.take k ++ [(((joinV cs k).length : Int), interA (joinV cs k))] ++ cs.drop (k + 2) → 1 ≤ ys.length ∧ ys.length ≤ 7 := by
  obtain ⟨_, _, hall⟩ := planOk_seg hp
  intro e ys hm
  rw [List.mem_append, List.mem_append] at hm
  rcases hm with (hm | hm) | hm
  · have := hall e ys (List.mem_of_mem_take hm); omega
  · simp at hm
    obtain ⟨_, rfl⟩ := hm
    unfold runB at h
    rw [Bool.and_eq_true] at h
    obtain ⟨T, P, e', _, hT, hPl, _, _, _, _, _⟩ := inter_yes (joinV cs k) h.2
    rw [e', hPl]
    omega
  · have := hall e ys (List.mem_of_mem_drop hm); omega
set_option maxHeartbeats 3200000 in
theorem join_any (v : Value) (cs : List (Int × List Int)) (i d : Int) (w : World) (h1 : Nat) (hv : LiesSg w h1 v cs) (hn : cs.length ≤ 1048576) : Calls Try.prog 24 #[v, .int .i64 i, .int .i64 d] w (NewApB (joinA cs i d) (joinB cs i d) w) := by
  have HV := hidH hv
  have HPV := hidH (planValid_any v cs w h1 hv hn)
  obtain ⟨av, cap, rfl, hlc, hcm⟩ := hv.len
  have HCM := hidH hcm
  unfold maxLen at hcm
  clear hv
  cases hp : planOk cs
  · have hjb := joinB_no1 i d hp
    rw [joinB_no hjb, hjb]
    rw [hp] at HPV
    clear hjb hp
    go_enter Try.func24, Try.ntmps24
    go_wp2_with fail
    refine HPV.out.mono ?_; rintro e w2 ⟨rfl, hb⟩
    have HB := hidH hb
    clear hb
    go_wp2_with fail
    go_ret2
    exact ⟨_, rfl, ApSg.nil _ _ _ none 0 (Nat.zero_le _) (fun _ => rfl), HB.out⟩
  · rw [hp] at HPV
    have HP := hidH hp
    clear hp
    obtain ⟨hl1, hl60, _⟩ := planOk_seg HP.out
    by_cases hi : 0 ≤ i ∧ i < (cs.length : Int) - 1
    rotate_left
    · have hjb := joinB_no2 cs d hi
      rw [joinB_no hjb, hjb]
      clear hjb
      by_cases hi0 : i < 0
      · clear hi
        go_enter Try.func24, Try.ntmps24
        go_wp2_with fail
        refine HPV.out.mono ?_; rintro e w2 ⟨rfl, hb⟩
        have HB := hidH hb
        clear hb
        go_wp2_with fail
        go_ret2
        exact ⟨_, rfl, ApSg.nil _ _ _ none 0 (Nat.zero_le _) (fun _ => rfl), HB.out⟩
      · have hi1 : (cs.length : Int) - 1 ≤ i := by omega
        clear hi
        go_enter Try.func24, Try.ntmps24
        go_wp2_with fail
        refine HPV.out.mono ?_; rintro e w2 ⟨rfl, hb⟩
        have HB := hidH hb
        clear hb
        go_wp2_with fail
        go_ret2
        exact ⟨_, rfl, ApSg.nil _ _ _ none 0 (Nat.zero_le _) (fun _ => rfl), HB.out⟩
    · obtain ⟨k, rfl⟩ : ∃ k : Nat, i = (k : Int) := ⟨i.toNat, by omega⟩
      have hk : k + 2 ≤ cs.length := by omega
      clear hi
      obtain ⟨b, off, cap', us, e, _, _, hpf, hcf⟩ := HV.out.part (by omega)
      injection e with ea eb ec
      subst ea ec
      clear eb
      have HSU := hidH (HV.out.cut k 2 (cap - k) hk (by omega) (Nat.le_trans (Nat.sub_le _ _) HCM.out))
      obtain ⟨so1, so2, so3, so4⟩ := sub_ok HP.out hk
      clear so3
      have SO1 := hidH so1
      have SO2 := hidH so2
      have HPF := hidH hpf
      have HCF := hidH hcf
      obtain ⟨jb, ja⟩ := joinB_at d HP.out hk
      have HJA := hidH ja
      have HRQ := hidH (show runB (joinV cs k) d = true → degOk d = true → runQ (joinV cs k) d = interA (joinV cs k) from fun h1 h2 => by
        have := clean_run (joinV cs k) d
        rw [h1, h2] at this
        simp at this
        unfold runQ
        rw [this.1, if_pos rfl])
      have HJP := hidH (fun h => join_polys (d := d) HP.out (k := k) h)
      obtain ⟨q, hq⟩ : ∃ q, q = k + 2 := ⟨_, rfl⟩
      have hqi2 : (k : Int) + 2 = (q : Int) := by omega
      have hqk : q - k = 2 := by omega
      have hck : ¬ cap = k := by omega
      have hkc : k ≤ cap := by omega
      have hqc : q ≤ cap := by omega
      have hqn : q ≤ cs.length := by omega
      have HQ := hidH hq
      have hkq : k ≤ q := by omega
      clear so1 so2 hpf hcf ja hq
      cases hr : (degOk d && runB (joinV cs k) d)
      · rw [jb, hr]
        have e0 := joinB_no (jb.trans hr)
        rw [e0]
        have HRB := hidH ((clean_run (joinV cs k) d).trans hr)
        clear e0 jb hr
        go_enter Try.func24, Try.ntmps24
        go_wp2_with fail
        refine HPV.out.mono ?_; rintro e w2 ⟨rfl, hb⟩
        have HB2 := hidH hb
        have HPF2 := hidH (HPF.out.below hb)
        have HCF2 := hidH (HCF.out.below hb)
        have HSU2 := hidH (HSU.out.below hb)
        clear hb HPF HCF HSU HPV
        go_wp2_with fail
        refine (planValues_any _ _ w2 _ HSU2.out (by rw [List.length_take]; omega)).mono ?_; rintro e w3 ⟨v3, rfl, hr, hb⟩
        rw [SO2.out] at hr
        rw [SO1.out]
        have HB3 := hidH (bThen HB2.out hb)
        have HPF3 := hidH (HPF2.out.below hb)
        have HCF3 := hidH (HCF2.out.below hb)
        have HV3 := hidH hr
        obtain ⟨va, vc, rfl⟩ := hr.some
        clear hb hr HPF2 HCF2 HSU2 HB2
        go_wp2_with fail
        refine (runOf_any _ (joinV cs k) d w3 _ _ HV3.out.lies).mono ?_; rintro e w4 ⟨r, rfl, hr, hb⟩
        rw [HRB.out]
        have HB4 := hidH (bThen HB3.out hb)
        have HPF4 := hidH (HPF3.out.below hb)
        have HCF4 := hidH (HCF3.out.below hb)
        clear hb hr
        go_wp2_with fail
        go_ret2
        exact ⟨_, rfl, ApSg.nil _ _ _ none 0 (Nat.zero_le _) (fun _ => rfl), HB4.out⟩
      · have e0 := HJA.out (jb.trans hr)
        rw [jb, hr, e0]
        have HRB := hidH ((clean_run (joinV cs k) d).trans hr)
        rw [Bool.and_eq_true] at hr
        have HRI := hidH (HRQ.out hr.2 hr.1)
        have HPZ := hidH (HJP.out hr.2)
        clear e0 jb hr
        go_enter Try.func24, Try.ntmps24
        go_wp2_with fail
        refine HPV.out.mono ?_; rintro e w2 ⟨rfl, hb⟩
        have HB2 := hidH hb
        have HPF2 := hidH (HPF.out.below hb)
        have HCF2 := hidH (HCF.out.below hb)
        have HSU2 := hidH (HSU.out.below hb)
        clear hb HPF HCF HSU HPV
        go_wp2_with fail
        refine (planValues_any _ _ w2 _ HSU2.out (by rw [List.length_take]; omega)).mono ?_; rintro e w3 ⟨v3, rfl, hr, hb⟩
        rw [SO2.out] at hr
        rw [SO1.out]
        have HB3 := hidH (bThen HB2.out hb)
        have HPF3 := hidH (HPF2.out.below hb)
        have HCF3 := hidH (HCF2.out.below hb)
        have HV3 := hidH hr
        obtain ⟨va, vc, rfl⟩ := hr.some
        clear hb hr HPF2 HCF2 HSU2 HB2
        go_wp2_with fail
        refine (runOf_any _ (joinV cs k) d w3 _ _ HV3.out.lies).mono ?_; rintro e w4 ⟨r, rfl, hr, hb⟩
        rw [HRB.out]
        have HB4 := hidH (bThen HB3.out hb)
        have HPF4 := hidH (HPF3.out.below hb)
        have HCF4 := hidH (HCF3.out.below hb)
        rw [HRI.out] at hr
        obtain ⟨ra, rc, rfl⟩ := hr.some
        have HR4 := hidH hr
        generalize hvl : (joinV cs k).length = vl at *
        generalize interA (joinV cs k) = ps at *
        generalize hrl : ps.length = rl at *
        have HRL := hidH hrl
        clear hb hr HPF3 HCF3 HB3 hvl hrl
        have hB45 : Below w4.heap.size w4 ((w4.alloc (.cells #[.int .i64 (vl : Int), .slice ra rl rc] 39))) := (Below.refl _ w4).alloc (Nat.le_refl _) _
        have HB5 := hidH (HB4.out.trans (hB45.mono HB4.out.size))
        have HPF5 := hidH (HPF4.out.below hB45)
        have HCF5 := hidH (HCF4.out.below hB45)
        have HPN : Hid (PartF ((w4.alloc (.cells #[.int .i64 (vl : Int), .slice ra rl rc] 39))) ⟨w4.heap.size, 0, none⟩ 1 1 [.int .i64 (vl : Int), .slice ra rl rc]) := hidH ⟨rfl, Nat.le_refl _, by decide, (World.news_of_block (cs := #[.int .i64 (vl : Int), .slice ra rl rc]) (t := 39) (fr := (0, 0)) (heap_alloc_new w4 (.cells #[.int .i64 (vl : Int), .slice ra rl rc] 39))), by simp [Value.oneCell']⟩
        have HCN : Hid (CellsSg ((w4.alloc (.cells #[.int .i64 (vl : Int), .slice ra rl rc] 39))) ((w4.alloc (.cells #[.int .i64 (vl : Int), .slice ra rl rc] 39))).heap.size [.int .i64 (vl : Int), .slice ra rl rc] [((vl : Int), ps)]) := hidH ⟨rfl, fun j c' ys' hj => by
          have hj2 : j < 1 := (List.getElem?_eq_some_iff.1 hj).1
          obtain rfl : j = 0 := by omega
          injection hj with hj
          injection hj with e1 e2
          subst e1 e2
          exact ⟨rfl, _, rfl, (HR4.out.lies.below hB45).top⟩⟩
        have hs5 : ((w4.alloc (.cells #[.int .i64 (vl : Int), .slice ra rl rc] 39))).heap.size = w4.heap.size + 1 := by simp
        clear hB45 hqi2 hqk hck
        go_upto_region 8 with fail
        generalize (w4.alloc (.cells #[.int .i64 (vl : Int), .slice ra rl rc] 39)) = w5 at *
        clear hs5
        have hqi : IntKind.i64.wrap ((k : Int) + 2) = (q : Int) := by rw [HQ.out]; exact IntWalk.i64_in _ (by omega)
        have HCAT : Hid (CellsSg w5 w5.heap.size (us.take (k * 2) ++ [.int .i64 (vl : Int), .slice ra rl rc] ++ us.drop (q * 2)) (cs.take k ++ [((vl : Int), ps)] ++ cs.drop q)) := hidH ((((HCF5.out.top).take k (by omega)).append HCN.out).append (HCF5.out.top.drop q))
        have HLEN : Hid (k + 1 + (cs.length - q) = (cs.take k ++ [((vl : Int), ps)] ++ cs.drop q).length ∧ (cs.take k ++ [((vl : Int), ps)] ++ cs.drop q).length ≤ 61) := hidH (by have := HQ.out; simp; omega)
        have HGQ := hidH (show cs.take k ++ [((vl : Int), ps)] ++ cs.drop (k + 2) = cs.take k ++ [((vl : Int), ps)] ++ cs.drop q by rw [HQ.out])
        rw [← HQ.out] at HPZ
        generalize cs.take k ++ [((vl : Int), ps)] ++ cs.drop q = gs at *
        have HP0 := hidH (HPF5.out.take k (by omega))
        by_cases hce : cap = q
        · have hnq : cs.length = q := by omega
          have HP2 := hidH (show PartF w5 ⟨b, off, none⟩ 0 0 (us.drop (q * 2)) from by
            rw [List.drop_eq_nil_of_le (by rw [HPF5.out.1]; omega)]
            exact PartF.nil _ _ _ (Nat.zero_le _))
          have HPO := hidH (fun W (hb : Below w5.heap.size w5 W) h0 h1 h2 => planOf3_any w5.heap.size ⟨b, off, none⟩ ⟨w4.heap.size, 0, none⟩ ⟨b, off, none⟩ k 1 0 cap 1 0 _ _ _ gs W h0 h1 h2 (HP0.out.below hb) (HPN.out.below hb) (HP2.out.below hb) ((HCAT.out.below hb).mono hb.size) (by have := HLEN.out.1; omega) (by have := HLEN.out.1; omega) (by have := HLEN.out.2; omega) (fun d ys h => by have := HPZ.out d ys h; omega))
          have hcn1 : (cs.length : Int) - q = 0 := by omega
          subst hce
          clear HPZ HLEN hnq
          go_region_with (go_at_call 52; refine (HPO.out _ (by first | exact ((Below.refl _ w5).alloc (Nat.le_refl _) _).drew | exact ((Below.refl _ w5).drew.alloc (Nat.le_refl _) _)) (by simp) (by simp) (by simp)).mono ?_; rintro e w8 ⟨v8, rfl, hr, hb⟩; (have HR8 := hidH (hr.mono (Nat.le_trans HB5.out.size (by simp)) (Nat.le_refl _))); (have HB8 := hidH (bThen (show Below w.heap.size w _ from by first | exact (bMore HB5.out _).drew | exact (bMore HB5.out.drew _)) hb)); clear hr hb)
          all_goals
            obtain ⟨v8a, v8c, rfl, hv1, hv2⟩ := HR8.out.form
            clear hv1 hv2
            go_wp2_with fail
            go_ret2
            rw [HGQ.out]
            exact ⟨.slice v8a gs.length v8c, rfl, HR8.out, HB8.out⟩
        · have HP2 := hidH (HPF5.out.drop q hqn)
          have hcn1 : (cs.length : Int) - q = ((cs.length - q : Nat) : Int) := by omega
          have hcn2 : (cap : Int) - q = ((cap - q : Nat) : Int) := by omega
          have HPO := hidH (fun W (hb : Below w5.heap.size w5 W) h0 h1 h2 => planOf3_any w5.heap.size ⟨b, off, none⟩ ⟨w4.heap.size, 0, none⟩ ⟨b, off + q * 2, none⟩ k 1 (cs.length - q) cap 1 (cap - q) _ _ _ gs W h0 h1 h2 (HP0.out.below hb) (HPN.out.below hb) (HP2.out.below hb) ((HCAT.out.below hb).mono hb.size) HLEN.out.1 (by have := HLEN.out.1; omega) (by have := HLEN.out.2; omega) (fun d ys h => by have := HPZ.out d ys h; omega))
          clear HPZ HLEN
          go_region_with (go_at_call 52; refine (HPO.out _ (by first | exact ((Below.refl _ w5).alloc (Nat.le_refl _) _).drew | exact ((Below.refl _ w5).drew.alloc (Nat.le_refl _) _)) (by simp) (by simp) (by simp)).mono ?_; rintro e w8 ⟨v8, rfl, hr, hb⟩; (have HR8 := hidH (hr.mono (Nat.le_trans HB5.out.size (by simp)) (Nat.le_refl _))); (have HB8 := hidH (bThen (show Below w.heap.size w _ from by first | exact (bMore HB5.out _).drew | exact (bMore HB5.out.drew _)) hb)); clear hr hb)
          all_goals
            obtain ⟨v8a, v8c, rfl, hv1, hv2⟩ := HR8.out.form
            clear hv1 hv2
            go_wp2_with fail
            go_ret2
            rw [HGQ.out]
            exact ⟨.slice v8a gs.length v8c, rfl, HR8.out, HB8.out⟩
end Go.Proofs.Ytgnoclnenhmakaa
