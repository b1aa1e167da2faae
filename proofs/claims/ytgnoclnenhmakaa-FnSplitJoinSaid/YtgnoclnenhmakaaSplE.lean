/-
  The walk of the exact law of SplitSegment. No conditions but that slices fit in memory.
  JoinSegments: the program, at every argument. No conditions but that slices fit in memory.
  JoinSegments: the model, at every argument, and the walk of the exact law. Condition: not more numbers than the laws let through.
-/
import Derived.Test.YtgnoclnenhmakaaSplC
import Derived.Test.YtgnoclnenhmakaaPlfV
import Derived.Test.YtgnoclnenhmakaaPolyAn
namespace Go.Proofs.Ytgnoclnenhmakaa
set_option maxRecDepth 4000
open Go.RowKit
theorem split_any2 (v : Value) (cs : List (Int × List Int)) (i a : Int) (w : World) (h1 : Nat) (hv : LiesSg w h1 v cs) (hn : cs.length ≤ 1048576) (_ : ∀ c zs, (c, zs) ∈ cs → zs.length ≤ 1048576) : Calls Try.prog 22 #[v, .int .i64 i, .int .i64 a] w (NewApB (splitA cs i a) (splitB cs i a) w) := split_any v cs i a w h1 hv hn
theorem splitA_tot (cs : List (Int × List Int)) (i a : Int) : totS (splitA cs i a) ≤ 1048576 := by
  obtain ⟨h1, h2⟩ := splitA_len cs i a
  have h3 := lenS_le (splitA cs i a) 7 h2
  unfold totS
  omega
end Go.Proofs.Ytgnoclnenhmakaa
namespace Go.Proofs.Ytgnoclnenhmakaa
set_option maxRecDepth 4000
open Go.RowKit
theorem clean_run (zs : List Int) (d : Int) : (cleanB zs d && interB zs) = (degOk d && runB zs d) := by
  rw [cleanB_eq]
  unfold runB
  cases hi : interB zs
  · simp
  · have hio : interOk zs = true := by unfold interB at hi; rw [Bool.and_eq_true] at hi; exact hi.1
    have := (inter_bd zs hio).2.2.2.1
    rw [decide_eq_true this, Bool.and_true, Bool.and_true, Bool.true_and]
theorem LiesSg.cut {w : World} {hi b off n cap : Nat} {cs : List (Int × List Int)} (H : LiesSg w hi (.slice (some ⟨b, off, none⟩) n cap) cs) (k m c : Nat) (hk : k + m ≤ cs.length) (hc : m ≤ c) (hm : c ≤ maxLen) : LiesSg w hi (.slice (some ⟨b, off + k * 2, none⟩) m c) ((cs.drop k).take m) := by
  obtain ⟨a, cap', e, h2, h3, h4, h5⟩ := H
  injection e with e1 e2 e3
  subst e1
  have hl : ((cs.drop k).take m).length = m := by rw [List.length_take, List.length_drop]; omega
  refine ⟨some ⟨b, off + k * 2, none⟩, c, by rw [hl], by rw [hl]; exact hc, hm, (fun e => by cases e), fun j x zs hj => ?_⟩
  have hjm : j < m := by have := (List.getElem?_eq_some_iff.1 hj).1; omega
  rw [List.getElem?_take, if_pos hjm, List.getElem?_drop] at hj
  obtain ⟨b', off', u, e, hlt, c0, c1, hz⟩ := h5 (k + j) x zs hj
  injection e with e
  injection e with e1 e2
  subst e1 e2
  exact ⟨b, off + k * 2, u, rfl, hlt, by rw [show off + k * 2 + j * 2 = off + (k + j) * 2 by omega]; exact c0, by rw [show off + k * 2 + j * 2 + 1 = off + (k + j) * 2 + 1 by omega]; exact c1, hz⟩
/-- The values of two segments that are joined. -/
def joinV (cs : List (Int × List Int)) (k : Nat) : List Int := planL ((cs.drop k).take 2)
def joinB (cs : List (Int × List Int)) (i d : Int) : Bool := planOk cs && (decide (0 ≤ i ∧ i < (cs.length : Int) - 1) && (degOk d && runB (joinV cs i.toNat) d))
/-- What JoinSegments answers. -/
def joinA (cs : List (Int × List Int)) (i d : Int) : List (Int × List Int) := if joinB cs i d then cs.take i.toNat ++ [(((joinV cs i.toNat).length : Int), interA (joinV cs i.toNat))] ++ cs.drop (i.toNat + 2) else []
theorem joinB_no {cs : List (Int × List Int)} {i d : Int} (h : joinB cs i d = false) : joinA cs i d = [] := by unfold joinA; rw [h]; rfl
theorem joinB_no1 {cs : List (Int × List Int)} (i d : Int) (h : planOk cs = false) : joinB cs i d = false := by unfold joinB; rw [h]; rfl
theorem joinB_no2 (cs : List (Int × List Int)) {i : Int} (d : Int) (h : ¬ (0 ≤ i ∧ i < (cs.length : Int) - 1)) : joinB cs i d = false := by unfold joinB; rw [decide_eq_false h]; simp
theorem joinB_no3 (cs : List (Int × List Int)) (i : Int) {d : Int} (h : degOk d = false) : joinB cs i d = false := by unfold joinB; rw [h]; simp
theorem joinB_at {cs : List (Int × List Int)} {k : Nat} (d : Int) (hp : planOk cs = true) (hk : k + 2 ≤ cs.length) : joinB cs (k : Int) d = (degOk d && runB (joinV cs k) d) ∧ (joinB cs (k : Int) d = true → joinA cs (k : Int) d = cs.take k ++ [(((joinV cs k).length : Int), interA (joinV cs k))] ++ cs.drop (k + 2)) := by
  refine ⟨?_, fun h => ?_⟩
  · unfold joinB
    rw [hp, decide_eq_true (show 0 ≤ (k : Int) ∧ (k : Int) < (cs.length : Int) - 1 by omega), Int.toNat_natCast]; rfl
  · unfold joinA
    rw [h, if_pos rfl, Int.toNat_natCast]
theorem sub_two {cs : List (Int × List Int)} {k : Nat} (hk : k + 2 ≤ cs.length) : (cs.drop k).take 2 = [cs[k]'(by omega), cs[k + 1]'(by omega)] := by
  rw [List.drop_eq_getElem_cons (by omega), List.drop_eq_getElem_cons (by omega)]
  rfl
theorem sub_ok {cs : List (Int × List Int)} {k : Nat} (hp : planOk cs = true) (hk : k + 2 ≤ cs.length) : planOk ((cs.drop k).take 2) = true ∧ planA ((cs.drop k).take 2) = joinV cs k ∧ ((joinV cs k).length : Int) = (cs[k]'(by omega)).1 + (cs[k + 1]'(by omega)).1 ∧ (joinV cs k).length ≤ 60 := by
  obtain ⟨_, h60, hall, _, ht⟩ := planOk_parts hp
  obtain ⟨_, a1, a2, _⟩ := segOk_parts (List.all_eq_true.1 hall _ (List.getElem_mem (show k < cs.length by omega)))
  obtain ⟨_, b1, b2, _⟩ := segOk_parts (List.all_eq_true.1 hall _ (List.getElem_mem (show k + 1 < cs.length by omega)))
  have hL : (joinV cs k).length = (cs[k]'(by omega)).1.toNat + (cs[k + 1]'(by omega)).1.toNat := by
    unfold joinV
    rw [sub_two hk, planL_tot]
    simp [totN]
  have hle : (joinV cs k).length ≤ (planL cs).length := by
    have e : planL cs = planL (cs.take k) ++ (joinV cs k ++ planL ((cs.drop k).drop 2)) := by
      unfold joinV planL
      rw [← List.flatMap_append, List.take_append_drop, ← List.flatMap_append, List.take_append_drop]
    rw [e, List.length_append, List.length_append]
    omega
  rw [planL_tot cs] at hle
  have hok : planOk ((cs.drop k).take 2) = true := by
    unfold planOk
    rw [show planL ((cs.drop k).take 2) = joinV cs k from rfl, decide_eq_true (show (joinV cs k).length ≤ 60 by omega), decide_eq_true (show 1 ≤ ((cs.drop k).take 2).length by rw [sub_two hk]; simp), Bool.and_true, Bool.true_and]
    exact List.all_eq_true.2 fun s hs => List.all_eq_true.1 hall s (List.mem_of_mem_drop (List.mem_of_mem_take hs))
  exact ⟨hok, by unfold planA; rw [hok, if_pos rfl]; rfl, by omega, by omega⟩
theorem join_polys {cs : List (Int × List Int)} {k : Nat} {d : Int} (hp : planOk cs = true) (h : runB (joinV cs k) d = true) : ∀ e ys, (e, ys) ∈ cs.take k ++ [(((joinV cs k).length : Int), interA (joinV cs k))] ++ cs.drop (k + 2) → 1 ≤ ys.length ∧ ys.length ≤ 7 := by
  obtain ⟨_, _, hall⟩ := planOk_seg hp
  intro e ys hm
  rw [List.mem_append, List.mem_append] at hm
  rcases hm with (hm | hm) | hm
  · have := hall e ys (List.mem_of_mem_take hm); omega
  · simp at hm
    obtain ⟨_, rfl⟩ := hm
    unfold runB at h
    rw [Bool.and_eq_true] at h
    obtain ⟨T, P, e', _, hT, hPl, _, _, _, _, _⟩ := inter_yes (joinV cs k) h.2
    rw [e', hPl]
    omega
  · have := hall e ys (List.mem_of_mem_drop hm); omega
set_option maxHeartbeats 3200000 in
theorem join_any (v : Value) (cs : List (Int × List Int)) (i d : Int) (w : World) (h1 : Nat) (hv : LiesSg w h1 v cs) (hn : cs.length ≤ 1048576) : Calls Try.prog 24 #[v, .int .i64 i, .int .i64 d] w (NewApB (joinA cs i d) (joinB cs i d) w) := by
  have HV := hidH hv
  have HPV := hidH (planValid_any v cs w h1 hv hn)
  obtain ⟨av, cap, rfl, hlc, hcm⟩ := hv.len
  have HCM := hidH hcm
  unfold maxLen at hcm
  clear hv
  cases hp : planOk cs
  · have hjb := joinB_no1 i d hp
    rw [joinB_no hjb, hjb]
    rw [hp] at HPV
    clear hjb hp
    go_enter Try.func24, Try.ntmps24
    go_wp2_with fail
    refine HPV.out.mono ?_; rintro e w2 ⟨rfl, hb⟩
    have HB := hidH hb
    clear hb
    go_wp2_with fail
    go_ret2
    exact ⟨_, rfl, ApSg.nil _ _ _ none 0 (Nat.zero_le _) (fun _ => rfl), HB.out⟩
  · rw [hp] at HPV
    have HP := hidH hp
    clear hp
    obtain ⟨hl1, hl60, _⟩ := planOk_seg HP.out
    by_cases hi : 0 ≤ i ∧ i < (cs.length : Int) - 1
    rotate_left
    · have hjb := joinB_no2 cs d hi
      rw [joinB_no hjb, hjb]
      clear hjb
      by_cases hi0 : i < 0
      · clear hi
        go_enter Try.func24, Try.ntmps24
        go_wp2_with fail
        refine HPV.out.mono ?_; rintro e w2 ⟨rfl, hb⟩
        have HB := hidH hb
        clear hb
        go_wp2_with fail
        go_ret2
        exact ⟨_, rfl, ApSg.nil _ _ _ none 0 (Nat.zero_le _) (fun _ => rfl), HB.out⟩
      · have hi1 : (cs.length : Int) - 1 ≤ i := by omega
        clear hi
        go_enter Try.func24, Try.ntmps24
        go_wp2_with fail
        refine HPV.out.mono ?_; rintro e w2 ⟨rfl, hb⟩
        have HB := hidH hb
        clear hb
        go_wp2_with fail
        go_ret2
        exact ⟨_, rfl, ApSg.nil _ _ _ none 0 (Nat.zero_le _) (fun _ => rfl), HB.out⟩
    · obtain ⟨k, rfl⟩ : ∃ k : Nat, i = (k : Int) := ⟨i.toNat, by omega⟩
      have hk : k + 2 ≤ cs.length := by omega
      clear hi
      obtain ⟨b, off, cap', us, e, _, _, hpf, hcf⟩ := HV.out.part (by omega)
      injection e with ea eb ec
      subst ea ec
      clear eb
      have HSU := hidH (HV.out.cut k 2 (cap - k) hk (by omega) (Nat.le_trans (Nat.sub_le _ _) HCM.out))
      obtain ⟨so1, so2, so3, so4⟩ := sub_ok HP.out hk
      clear so3
      have SO1 := hidH so1
      have SO2 := hidH so2
      have HPF := hidH hpf
      have HCF := hidH hcf
      obtain ⟨jb, ja⟩ := joinB_at d HP.out hk
      have HJA := hidH ja
      have HRQ := hidH (show runB (joinV cs k) d = true → degOk d = true → runQ (joinV cs k) d = interA (joinV cs k) from fun h1 h2 => by
        have := clean_run (joinV cs k) d
        rw [h1, h2] at this
        simp at this
        unfold runQ
        rw [this.1, if_pos rfl])
      have HJP := hidH (fun h => join_polys (d := d) HP.out (k := k) h)
      obtain ⟨q, hq⟩ : ∃ q, q = k + 2 := ⟨_, rfl⟩
      have hqi2 : (k : Int) + 2 = (q : Int) := by omega
      have hqk : q - k = 2 := by omega
      have hck : ¬ cap = k := by omega
      have hkc : k ≤ cap := by omega
      have hqc : q ≤ cap := by omega
      have hqn : q ≤ cs.length := by omega
      have HQ := hidH hq
      have hkq : k ≤ q := by omega
      clear so1 so2 hpf hcf ja hq
      cases hr : (degOk d && runB (joinV cs k) d)
      · rw [jb, hr]
        have e0 := joinB_no (jb.trans hr)
        rw [e0]
        have HRB := hidH ((clean_run (joinV cs k) d).trans hr)
        clear e0 jb hr
        go_enter Try.func24, Try.ntmps24
        go_wp2_with fail
        refine HPV.out.mono ?_; rintro e w2 ⟨rfl, hb⟩
        have HB2 := hidH hb
        have HPF2 := hidH (HPF.out.below hb)
        have HCF2 := hidH (HCF.out.below hb)
        have HSU2 := hidH (HSU.out.below hb)
        clear hb HPF HCF HSU HPV
        go_wp2_with fail
        refine (planValues_any _ _ w2 _ HSU2.out (by rw [List.length_take]; omega)).mono ?_; rintro e w3 ⟨v3, rfl, hr, hb⟩
        rw [SO2.out] at hr
        rw [SO1.out]
        have HB3 := hidH (bThen HB2.out hb)
        have HPF3 := hidH (HPF2.out.below hb)
        have HCF3 := hidH (HCF2.out.below hb)
        have HV3 := hidH hr
        obtain ⟨va, vc, rfl⟩ := hr.some
        clear hb hr HPF2 HCF2 HSU2 HB2
        go_wp2_with fail
        refine (runOf_any _ (joinV cs k) d w3 _ _ HV3.out.lies).mono ?_; rintro e w4 ⟨r, rfl, hr, hb⟩
        rw [HRB.out]
        have HB4 := hidH (bThen HB3.out hb)
        have HPF4 := hidH (HPF3.out.below hb)
        have HCF4 := hidH (HCF3.out.below hb)
        clear hb hr
        go_wp2_with fail
        go_ret2
        exact ⟨_, rfl, ApSg.nil _ _ _ none 0 (Nat.zero_le _) (fun _ => rfl), HB4.out⟩
      · have e0 := HJA.out (jb.trans hr)
        rw [jb, hr, e0]
        have HRB := hidH ((clean_run (joinV cs k) d).trans hr)
        rw [Bool.and_eq_true] at hr
        have HRI := hidH (HRQ.out hr.2 hr.1)
        have HPZ := hidH (HJP.out hr.2)
        clear e0 jb hr
        go_enter Try.func24, Try.ntmps24
        go_wp2_with fail
        refine HPV.out.mono ?_; rintro e w2 ⟨rfl, hb⟩
        have HB2 := hidH hb
        have HPF2 := hidH (HPF.out.below hb)
        have HCF2 := hidH (HCF.out.below hb)
        have HSU2 := hidH (HSU.out.below hb)
        clear hb HPF HCF HSU HPV
        go_wp2_with fail
        refine (planValues_any _ _ w2 _ HSU2.out (by rw [List.length_take]; omega)).mono ?_; rintro e w3 ⟨v3, rfl, hr, hb⟩
        rw [SO2.out] at hr
        rw [SO1.out]
        have HB3 := hidH (bThen HB2.out hb)
        have HPF3 := hidH (HPF2.out.below hb)
        have HCF3 := hidH (HCF2.out.below hb)
        have HV3 := hidH hr
        obtain ⟨va, vc, rfl⟩ := hr.some
        clear hb hr HPF2 HCF2 HSU2 HB2
        go_wp2_with fail
        refine (runOf_any _ (joinV cs k) d w3 _ _ HV3.out.lies).mono ?_; rintro e w4 ⟨r, rfl, hr, hb⟩
        rw [HRB.out]
        have HB4 := hidH (bThen HB3.out hb)
        have HPF4 := hidH (HPF3.out.below hb)
        have HCF4 := hidH (HCF3.out.below hb)
        rw [HRI.out] at hr
        obtain ⟨ra, rc, rfl⟩ := hr.some
        have HR4 := hidH hr
        generalize hvl : (joinV cs k).length = vl at *
        generalize interA (joinV cs k) = ps at *
        generalize hrl : ps.length = rl at *
        have HRL := hidH hrl
        clear hb hr HPF3 HCF3 HB3 hvl hrl
        have hB45 : Below w4.heap.size w4 ((w4.alloc (.cells #[.int .i64 (vl : Int), .slice ra rl rc] 39))) := (Below.refl _ w4).alloc (Nat.le_refl _) _
        have HB5 := hidH (HB4.out.trans (hB45.mono HB4.out.size))
        have HPF5 := hidH (HPF4.out.below hB45)
        have HCF5 := hidH (HCF4.out.below hB45)
        have HPN : Hid (PartF ((w4.alloc (.cells #[.int .i64 (vl : Int), .slice ra rl rc] 39))) ⟨w4.heap.size, 0, none⟩ 1 1 [.int .i64 (vl : Int), .slice ra rl rc]) := hidH ⟨rfl, Nat.le_refl _, by decide, (World.news_of_block (cs := #[.int .i64 (vl : Int), .slice ra rl rc]) (t := 39) (fr := (0, 0)) (heap_alloc_new w4 (.cells #[.int .i64 (vl : Int), .slice ra rl rc] 39))), by simp [Value.oneCell']⟩
        have HCN : Hid (CellsSg ((w4.alloc (.cells #[.int .i64 (vl : Int), .slice ra rl rc] 39))) ((w4.alloc (.cells #[.int .i64 (vl : Int), .slice ra rl rc] 39))).heap.size [.int .i64 (vl : Int), .slice ra rl rc] [((vl : Int), ps)]) := hidH ⟨rfl, fun j c' ys' hj => by
          have hj2 : j < 1 := (List.getElem?_eq_some_iff.1 hj).1
          obtain rfl : j = 0 := by omega
          injection hj with hj
          injection hj with e1 e2
          subst e1 e2
          exact ⟨rfl, _, rfl, (HR4.out.lies.below hB45).top⟩⟩
        have hs5 : ((w4.alloc (.cells #[.int .i64 (vl : Int), .slice ra rl rc] 39))).heap.size = w4.heap.size + 1 := by simp
        clear hB45 hqi2 hqk hck
        go_upto_region 8 with fail
        generalize (w4.alloc (.cells #[.int .i64 (vl : Int), .slice ra rl rc] 39)) = w5 at *
        clear hs5
        have hqi : IntKind.i64.wrap ((k : Int) + 2) = (q : Int) := by rw [HQ.out]; exact IntWalk.i64_in _ (by omega)
        have HCAT : Hid (CellsSg w5 w5.heap.size (us.take (k * 2) ++ [.int .i64 (vl : Int), .slice ra rl rc] ++ us.drop (q * 2)) (cs.take k ++ [((vl : Int), ps)] ++ cs.drop q)) := hidH ((((HCF5.out.top).take k (by omega)).append HCN.out).append (HCF5.out.top.drop q))
        have HLEN : Hid (k + 1 + (cs.length - q) = (cs.take k ++ [((vl : Int), ps)] ++ cs.drop q).length ∧ (cs.take k ++ [((vl : Int), ps)] ++ cs.drop q).length ≤ 61) := hidH (by have := HQ.out; simp; omega)
        have HGQ := hidH (show cs.take k ++ [((vl : Int), ps)] ++ cs.drop (k + 2) = cs.take k ++ [((vl : Int), ps)] ++ cs.drop q by rw [HQ.out])
        rw [← HQ.out] at HPZ
        generalize cs.take k ++ [((vl : Int), ps)] ++ cs.drop q = gs at *
        have HP0 := hidH (HPF5.out.take k (by omega))
        by_cases hce : cap = q
        · have hnq : cs.length = q := by omega
          have HP2 := hidH (show PartF w5 ⟨b, off, none⟩ 0 0 (us.drop (q * 2)) from by
            rw [List.drop_eq_nil_of_le (by rw [HPF5.out.1]; omega)]
            exact PartF.nil _ _ _ (Nat.zero_le _))
          have HPO := hidH (fun W (hb : Below w5.heap.size w5 W) h0 h1 h2 => planOf3_any w5.heap.size ⟨b, off, none⟩ ⟨w4.heap.size, 0, none⟩ ⟨b, off, none⟩ k 1 0 cap 1 0 _ _ _ gs W h0 h1 h2 (HP0.out.below hb) (HPN.out.below hb) (HP2.out.below hb) ((HCAT.out.below hb).mono hb.size) (by have := HLEN.out.1; omega) (by have := HLEN.out.1; omega) (by have := HLEN.out.2; omega) (fun d ys h => by have := HPZ.out d ys h; omega))
          have hcn1 : (cs.length : Int) - q = 0 := by omega
          subst hce
          clear HPZ HLEN hnq
          go_region_with (go_at_call 52; refine (HPO.out _ (by first | exact ((Below.refl _ w5).alloc (Nat.le_refl _) _).drew | exact ((Below.refl _ w5).drew.alloc (Nat.le_refl _) _)) (by simp) (by simp) (by simp)).mono ?_; rintro e w8 ⟨v8, rfl, hr, hb⟩; (have HR8 := hidH (hr.mono (Nat.le_trans HB5.out.size (by simp)) (Nat.le_refl _))); (have HB8 := hidH (bThen (show Below w.heap.size w _ from by first | exact (bMore HB5.out _).drew | exact (bMore HB5.out.drew _)) hb)); clear hr hb)
          all_goals
            obtain ⟨v8a, v8c, rfl, hv1, hv2⟩ := HR8.out.form
            clear hv1 hv2
            go_wp2_with fail
            go_ret2
            rw [HGQ.out]
            exact ⟨.slice v8a gs.length v8c, rfl, HR8.out, HB8.out⟩
        · have HP2 := hidH (HPF5.out.drop q hqn)
          have hcn1 : (cs.length : Int) - q = ((cs.length - q : Nat) : Int) := by omega
          have hcn2 : (cap : Int) - q = ((cap - q : Nat) : Int) := by omega
          have HPO := hidH (fun W (hb : Below w5.heap.size w5 W) h0 h1 h2 => planOf3_any w5.heap.size ⟨b, off, none⟩ ⟨w4.heap.size, 0, none⟩ ⟨b, off + q * 2, none⟩ k 1 (cs.length - q) cap 1 (cap - q) _ _ _ gs W h0 h1 h2 (HP0.out.below hb) (HPN.out.below hb) (HP2.out.below hb) ((HCAT.out.below hb).mono hb.size) HLEN.out.1 (by have := HLEN.out.1; omega) (by have := HLEN.out.2; omega) (fun d ys h => by have := HPZ.out d ys h; omega))
          clear HPZ HLEN
          go_region_with (go_at_call 52; refine (HPO.out _ (by first | exact ((Below.refl _ w5).alloc (Nat.le_refl _) _).drew | exact ((Below.refl _ w5).drew.alloc (Nat.le_refl _) _)) (by simp) (by simp) (by simp)).mono ?_; rintro e w8 ⟨v8, rfl, hr, hb⟩; (have HR8 := hidH (hr.mono (Nat.le_trans HB5.out.size (by simp)) (Nat.le_refl _))); (have HB8 := hidH (bThen (show Below w.heap.size w _ from by first | exact (bMore HB5.out _).drew | exact (bMore HB5.out.drew _)) hb)); clear hr hb)
          all_goals
            obtain ⟨v8a, v8c, rfl, hv1, hv2⟩ := HR8.out.form
            clear hv1 hv2
            go_wp2_with fail
            go_ret2
            rw [HGQ.out]
            exact ⟨.slice v8a gs.length v8c, rfl, HR8.out, HB8.out⟩
end Go.Proofs.Ytgnoclnenhmakaa
namespace Go.Proofs.Ytgnoclnenhmakaa
set_option maxRecDepth 4000
open Go.RowKit
set_option maxHeartbeats 3200000 in
theorem sRawJoin_any (v : Value) (cs : List (Int × List Int)) (i d : Int) (w : World) (h1 : Nat) (hv : LiesSg w h1 v cs) (hn : cs.length ≤ 1048576) (hz : ∀ c zs, (c, zs) ∈ cs → zs.length ≤ 1048576) : Calls Try.prog 54 #[v, .int .i64 i, .int .i64 d] w fun e w' => ∃ u, e = .returned (.tuple #[u, .bool (joinB cs i d)]) ∧ LiesSg w' w'.heap.size u (joinA cs i d) ∧ Below w.heap.size w w' := by
  have HOW := hidH (ownSgs_any v cs w h1 hv hn hz)
  obtain ⟨av, cap, rfl, hlc, hcm⟩ := hv.len
  unfold maxLen at hcm
  clear hv hz
  cases hp : planOk cs
  · have hjb := joinB_no1 i d hp
    rw [joinB_no hjb, hjb]
    have HP := hidH hp
    clear hjb hp
    go_enter Try.func54, Try.ntmps54
    go_wp2_with fail
    refine HOW.out.mono ?_; rintro e w1 ⟨v1, rfl, hr, hb⟩
    have HR1 := hidH hr.lies
    have HB1 := hidH hb
    obtain ⟨a1, cap1, rfl, hc1, hc2⟩ := hr.form
    have HC2 := hidH hc2
    unfold maxLen at hc2
    clear hr hb
    go_wp2_with fail
    refine (sPlanValid_any _ cs w1 _ HR1.out hn).mono ?_; rintro e w2 ⟨rfl, hb⟩
    rw [HP.out]
    have HB2 := hidH (bThen HB1.out hb)
    have HR2 := hidH (HR1.out.below hb)
    clear hb HB1 HR1
    go_wp2_with fail
    go_ret2
    exact ⟨_, rfl, ⟨_, 0, rfl, Nat.zero_le _, Nat.zero_le _, fun _ => rfl, fun _ _ _ h => by simp at h⟩, bMore HB2.out _⟩
  · have HP := hidH hp
    clear hp
    obtain ⟨hl1, hl60, _⟩ := planOk_seg HP.out
    cases hd : degOk d
    · have hjb := joinB_no3 cs i hd
      rw [joinB_no hjb, hjb]
      have HD := hidH hd
      clear hjb hd
      go_enter Try.func54, Try.ntmps54
      go_wp2_with fail
      refine HOW.out.mono ?_; rintro e w1 ⟨v1, rfl, hr, hb⟩
      have HR1 := hidH hr.lies
      have HB1 := hidH hb
      obtain ⟨a1, cap1, rfl, hc1, hc2⟩ := hr.form
      have HC2 := hidH hc2
      unfold maxLen at hc2
      clear hr hb
      go_wp2_with fail
      refine (sPlanValid_any _ cs w1 _ HR1.out hn).mono ?_; rintro e w2 ⟨rfl, hb⟩
      rw [HP.out]
      have HB2 := hidH (bThen HB1.out hb)
      have HR2 := hidH (HR1.out.below hb)
      clear hb HB1 HR1
      go_wp2_with fail
      refine (sDeg4_any d _).mono ?_; rintro e w3 ⟨rfl, rfl⟩
      rw [HD.out]
      go_wp2_with fail
      go_ret2
      exact ⟨_, rfl, ⟨_, 0, rfl, Nat.zero_le _, Nat.zero_le _, fun _ => rfl, fun _ _ _ h => by simp at h⟩, bMore HB2.out _⟩
    · have HD := hidH hd
      clear hd
      by_cases hi : 0 ≤ i ∧ i < (cs.length : Int) - 1
      rotate_left
      · have hjb := joinB_no2 cs d hi
        rw [joinB_no hjb, hjb]
        have HIN := hidH (fun W => sIn_any i 0 ((cs.length : Int) - 2) false (decide_eq_false (by omega)) W)
        clear hjb hi
        go_enter Try.func54, Try.ntmps54
        go_wp2_with fail
        refine HOW.out.mono ?_; rintro e w1 ⟨v1, rfl, hr, hb⟩
        have HR1 := hidH hr.lies
        have HB1 := hidH hb
        obtain ⟨a1, cap1, rfl, hc1, hc2⟩ := hr.form
        have HC2 := hidH hc2
        unfold maxLen at hc2
        clear hr hb
        go_wp2_with fail
        refine (sPlanValid_any _ cs w1 _ HR1.out hn).mono ?_; rintro e w2 ⟨rfl, hb⟩
        rw [HP.out]
        have HB2 := hidH (bThen HB1.out hb)
        have HR2 := hidH (HR1.out.below hb)
        clear hb HB1 HR1
        go_wp2_with fail
        refine (sDeg4_any d _).mono ?_; rintro e w3 ⟨rfl, rfl⟩
        rw [HD.out]
        go_wp2_with fail
        refine (HIN.out _).mono ?_; rintro e w4 ⟨rfl, rfl⟩
        go_wp2_with fail
        go_ret2
        exact ⟨_, rfl, ⟨_, 0, rfl, Nat.zero_le _, Nat.zero_le _, fun _ => rfl, fun _ _ _ h => by simp at h⟩, bMore HB2.out _⟩
      · obtain ⟨k, rfl⟩ : ∃ k : Nat, i = (k : Int) := ⟨i.toNat, by omega⟩
        have hk : k + 2 ≤ cs.length := by omega
        have HIN := hidH (fun W => sIn_any (k : Int) 0 ((cs.length : Int) - 2) true (decide_eq_true (by omega)) W)
        clear hi
        obtain ⟨so1, so2, so3, so4⟩ := sub_ok HP.out hk
        have SO1 := hidH so1
        have SO3 := hidH so3
        obtain ⟨jb, ja⟩ := joinB_at d HP.out hk
        rw [HD.out, Bool.true_and] at jb
        have HJA := hidH ja
        have HRI := hidH (show runB (joinV cs k) d = true → runA (joinV cs k) d = interA (joinV cs k) from fun h => by
          unfold runB at h
          rw [Bool.and_eq_true, decide_eq_true_eq] at h
          unfold runA
          rw [if_pos h.1])
        have HJP := hidH (fun h => join_polys (d := d) HP.out (k := k) h)
        obtain ⟨q, hq⟩ : ∃ q, q = k + 2 := ⟨_, rfl⟩
        have hqi2 : (k : Int) + 2 = (q : Int) := by omega
        have hqk : q - k = 2 := by omega
        have hqn : q ≤ cs.length := by omega
        have HQ := hidH hq
        have hkq : k ≤ q := by omega
        clear so1 so2 so3 ja hq
        cases hr : runB (joinV cs k) d
        · rw [jb, hr]
          have e0 := joinB_no (jb.trans hr)
          rw [e0]
          have HRB := hidH hr
          clear e0 jb hr
          go_enter Try.func54, Try.ntmps54
          go_wp2_with fail
          refine HOW.out.mono ?_; rintro e w1 ⟨v1, rfl, hr, hb⟩
          have HR1 := hidH hr.lies
          have HB1 := hidH hb
          obtain ⟨a1, cap1, rfl, hc1, hc2⟩ := hr.form
          have HC2 := hidH hc2
          unfold maxLen at hc2
          clear hr hb
          go_wp2_with fail
          refine (sPlanValid_any _ cs w1 _ HR1.out hn).mono ?_; rintro e w2 ⟨rfl, hb⟩
          rw [HP.out]
          have HB2 := hidH (bThen HB1.out hb)
          have HR2 := hidH (HR1.out.below hb)
          clear hb HB1 HR1
          go_wp2_with fail
          refine (sDeg4_any d _).mono ?_; rintro e w3 ⟨rfl, rfl⟩
          rw [HD.out]
          go_wp2_with fail
          refine (HIN.out _).mono ?_; rintro e w4 ⟨rfl, rfl⟩
          obtain ⟨b, off, cap2, us, e, _, _, hpf, hcf⟩ := HR2.out.part (by omega)
          injection e with e1 e2 e3
          subst e1 e3
          clear e2
          have HSU := hidH (HR2.out.cut k 2 (cap1 - k) hk (by omega) (Nat.le_trans (Nat.sub_le _ _) HC2.out))
          have HPF := hidH hpf
          have HCF := hidH hcf
          have hqc : q ≤ cap1 := by omega
          have hkc : k ≤ cap1 := by omega
          have hck : ¬ cap1 = k := by omega
          clear hpf hcf
          go_wp2_with fail
          refine (l5Values_any _ _ w2 _ HSU.out SO1.out).mono ?_; rintro e w5 ⟨v5, rfl, hr, hb⟩
          have HV5 := hidH (show Row w5 w2.heap.size w5.heap.size v5 (joinV cs k) from hr)
          have HB5 := hidH (bThen HB2.out hb)
          have HPF5 := hidH (HPF.out.below hb)
          have HCF5 := hidH (HCF.out.below hb)
          have HR5 := hidH (HR2.out.below hb)
          have hrs : Row w5 w2.heap.size w5.heap.size v5 (joinV cs k) := hr
          obtain ⟨va, vc, rfl⟩ := hrs.some
          clear hb hr hrs HSU HPF HCF HR2 HB2
          go_wp2_with fail
          refine (sRun_any _ (joinV cs k) d w5 _ _ HV5.out.lies).mono ?_; rintro e w6 ⟨r, rfl, hr, hb⟩
          rw [HRB.out]
          have HB6 := hidH (bThen HB5.out hb)
          have HPF6 := hidH (HPF5.out.below hb)
          have HCF6 := hidH (HCF5.out.below hb)
          have HR6 := hidH (HR5.out.below hb)
          clear hb hr
          go_wp2_with fail
          go_ret2
          exact ⟨_, rfl, ⟨_, 0, rfl, Nat.zero_le _, Nat.zero_le _, fun _ => rfl, fun _ _ _ h => by simp at h⟩, bMore HB6.out _⟩
        · have e0 := HJA.out (jb.trans hr)
          rw [jb, hr, e0]
          obtain ⟨GG, hGG⟩ : ∃ GG, GG = cs.take k ++ [(((joinV cs k).length : Int), interA (joinV cs k))] ++ cs.drop (k + 2) := ⟨_, rfl⟩
          rw [← hGG]
          have HGG := hidH hGG
          clear hGG
          have HRB := hidH hr
          have HRJ := hidH (HRI.out hr)
          clear e0 jb hr
          go_enter Try.func54, Try.ntmps54
          go_wp2_with fail
          refine HOW.out.mono ?_; rintro e w1 ⟨v1, rfl, hr, hb⟩
          have HR1 := hidH hr.lies
          have HB1 := hidH hb
          obtain ⟨a1, cap1, rfl, hc1, hc2⟩ := hr.form
          have HC2 := hidH hc2
          unfold maxLen at hc2
          clear hr hb
          go_wp2_with fail
          refine (sPlanValid_any _ cs w1 _ HR1.out hn).mono ?_; rintro e w2 ⟨rfl, hb⟩
          rw [HP.out]
          have HB2 := hidH (bThen HB1.out hb)
          have HR2 := hidH (HR1.out.below hb)
          clear hb HB1 HR1
          go_wp2_with fail
          refine (sDeg4_any d _).mono ?_; rintro e w3 ⟨rfl, rfl⟩
          rw [HD.out]
          go_wp2_with fail
          refine (HIN.out _).mono ?_; rintro e w4 ⟨rfl, rfl⟩
          obtain ⟨b, off, cap2, us, e, _, _, hpf, hcf⟩ := HR2.out.part (by omega)
          injection e with e1 e2 e3
          subst e1 e3
          clear e2
          have HSU := hidH (HR2.out.cut k 2 (cap1 - k) hk (by omega) (Nat.le_trans (Nat.sub_le _ _) HC2.out))
          have HPF := hidH hpf
          have HCF := hidH hcf
          have hqc : q ≤ cap1 := by omega
          have hkc : k ≤ cap1 := by omega
          have hck : ¬ cap1 = k := by omega
          clear hpf hcf
          go_wp2_with fail
          refine (l5Values_any _ _ w2 _ HSU.out SO1.out).mono ?_; rintro e w5 ⟨v5, rfl, hr, hb⟩
          have HV5 := hidH (show Row w5 w2.heap.size w5.heap.size v5 (joinV cs k) from hr)
          have HB5 := hidH (bThen HB2.out hb)
          have HPF5 := hidH (HPF.out.below hb)
          have HCF5 := hidH (HCF.out.below hb)
          have HR5 := hidH (HR2.out.below hb)
          have hrs : Row w5 w2.heap.size w5.heap.size v5 (joinV cs k) := hr
          obtain ⟨va, vc, rfl⟩ := hrs.some
          clear hb hr hrs HSU HPF HCF HR2 HB2
          go_wp2_with fail
          refine (sRun_any _ (joinV cs k) d w5 _ _ HV5.out.lies).mono ?_; rintro e w6 ⟨r, rfl, hr, hb⟩
          rw [HRB.out]
          have HB6 := hidH (bThen HB5.out hb)
          have HPF6 := hidH (HPF5.out.below hb)
          have HCF6 := hidH (HCF5.out.below hb)
          have HR6 := hidH (HR5.out.below hb)
          rw [HRJ.out] at hr
          obtain ⟨ra, rc, rfl⟩ := hr.some
          have HRR := hidH hr
          generalize hvl : (joinV cs k).length = vl at *
          generalize interA (joinV cs k) = ps at *
          generalize hrl : ps.length = rl at *
          have HRL := hidH hrl
          clear hb hr HPF5 HCF5 HB5 HR5 hvl hrl
          obtain ⟨q1, hq1⟩ : ∃ q1, q1 = k + 1 := ⟨_, rfl⟩
          have hq1n : q1 < cs.length := by omega
          have hk0 : k < cs.length := by omega
          have hx0 : cs[k]? = some ((cs[k]'hk0).1, (cs[k]'hk0).2) := List.getElem?_eq_getElem hk0
          have hx1 : cs[q1]? = some ((cs[q1]'hq1n).1, (cs[q1]'hq1n).2) := List.getElem?_eq_getElem hq1n
          have hsum : (vl : Int) = (cs[k]'hk0).1 + (cs[q1]'hq1n).1 := by
            have h := SO3.out
            subst hq1
            exact h
          generalize (cs[k]'hk0).1 = n0 at *
          generalize (cs[q1]'hq1n).1 = n1 at *
          generalize (cs[k]'hk0).2 = z0 at *
          generalize (cs[q1]'hq1n).2 = z1 at *
          obtain ⟨b2, off2, cap3, e, _, _, _, hcl⟩ := HR6.out.addr (by omega)
          injection e with e1 e2 e3
          subst e3
          clear e2
          injection e1 with e1
          injection e1 with eb eo
          subst eb eo
          obtain ⟨_, f0, _, _⟩ := hcl k _ _ hx0
          obtain ⟨_, f1, _, _⟩ := hcl q1 _ _ hx1
          have hqi1 : IntKind.i64.wrap ((k : Int) + 1) = (q1 : Int) := by rw [hq1]; exact IntWalk.i64_in _ (by omega)
          have hw : IntKind.i64.wrap (n0 + n1) = (vl : Int) := by rw [← hsum]; exact IntWalk.i64_in _ (by omega)
          have g0 : w6.drew.cell? ⟨b, off + k * 2, none⟩ = _ := f0
          have g1 : w6.drew.cell? ⟨b, off + q1 * 2, none⟩ = _ := f1
          have hB67 : Below w6.heap.size w6 (w6.alloc (.cells #[.int .i64 (vl : Int), .slice ra rl rc] 39)) := (Below.refl _ w6).alloc (Nat.le_refl _) _
          have HPF7 := hidH (HPF6.out.below hB67)
          have HCF7 := hidH ((HCF6.out.below hB67).top)
          have HPN : Hid (PartF (w6.alloc (.cells #[.int .i64 (vl : Int), .slice ra rl rc] 39)) ⟨w6.heap.size, 0, none⟩ 1 1 [.int .i64 (vl : Int), .slice ra rl rc]) := hidH ⟨rfl, Nat.le_refl _, by decide, (World.news_of_block (cs := #[.int .i64 (vl : Int), .slice ra rl rc]) (t := 39) (fr := (0, 0)) (heap_alloc_new w6 (.cells #[.int .i64 (vl : Int), .slice ra rl rc] 39))), by simp [Value.oneCell']⟩
          have HCN : Hid (CellsSg (w6.alloc (.cells #[.int .i64 (vl : Int), .slice ra rl rc] 39)) (w6.alloc (.cells #[.int .i64 (vl : Int), .slice ra rl rc] 39)).heap.size [.int .i64 (vl : Int), .slice ra rl rc] [((vl : Int), ps)]) := hidH ⟨rfl, fun j c' ys' hj => by
            have hj2 : j < 1 := (List.getElem?_eq_some_iff.1 hj).1
            obtain rfl : j = 0 := by omega
            injection hj with hj
            injection hj with e1 e2
            subst e1 e2
            exact ⟨rfl, _, rfl, (HRR.out.lies.below hB67).top⟩⟩
          have HB7 := hidH (HB6.out.trans (hB67.mono HB6.out.size))
          have HED := hidH (fun (W : World) (hb : Below (w6.alloc (.cells #[.int .i64 (vl : Int), .slice ra rl rc] 39)).heap.size (w6.alloc (.cells #[.int .i64 (vl : Int), .slice ra rl rc] 39)) W) => show Calls Try.prog 86 #[.slice (some ⟨b, off, none⟩) cs.length cap1, .int .i64 (k : Int), .int .i64 2, .slice (some ⟨w6.heap.size, 0, none⟩) 1 1] W (NewLs (cs.take k ++ [((vl : Int), ps)] ++ cs.drop (k + 2)) W) from sEdit_any b off cap1 us cs ⟨w6.heap.size, 0, none⟩ 1 1 _ [((vl : Int), ps)] k 2 W (HPF7.out.below hb) ((HCF7.out.below hb).mono hb.size) (HPN.out.below hb) ((HCN.out.below hb).mono hb.size) rfl (by omega) hn (by simp))
          generalize cs.take k ++ [((vl : Int), ps)] ++ cs.drop (k + 2) = gs at *
          have HSUM := hidH hsum
          clear hB67 hq1 hsum hx0 hx1 hcl hqi2 hqk hck
          go_upto_region 7 with fail
          clear f0 f1
          go_region_with (go_at_call 86; refine (HED.out _ (by first | exact (Below.refl _ _).drew | exact Below.refl _ _)).mono ?_; rintro e w8 ⟨v8, rfl, hr, hb⟩; (have HR8 := hidH hr); (have HB8 := hidH (bThen (show Below w.heap.size w _ from by first | exact HB7.out.drew | exact HB7.out) hb)); clear hr hb)
          all_goals
            obtain ⟨v8a, v8c, rfl, hv1, hv2⟩ := HR8.out.len
            clear hv1 hv2
            go_wp2_with fail
            go_ret2
            rw [HGG.out]
            exact ⟨.slice v8a gs.length v8c, rfl, HR8.out, HB8.out⟩
theorem joinA_len (cs : List (Int × List Int)) (i d : Int) : (joinA cs i d).length ≤ 61 ∧ ∀ c zs, (c, zs) ∈ joinA cs i d → zs.length ≤ 7 := by
  cases hb : joinB cs i d
  · rw [joinB_no hb]
    exact ⟨by simp, fun c zs h => by cases h⟩
  · have hb' := hb
    unfold joinB at hb'
    rw [Bool.and_eq_true, Bool.and_eq_true, Bool.and_eq_true, decide_eq_true_eq] at hb'
    obtain ⟨hp, hi, _, hr⟩ := hb'
    obtain ⟨k, rfl⟩ : ∃ k : Nat, i = (k : Int) := ⟨i.toNat, by omega⟩
    rw [Int.toNat_natCast] at hr
    rw [(joinB_at d hp (show k + 2 ≤ cs.length by omega)).2 hb]
    obtain ⟨_, h60, _⟩ := planOk_seg hp
    exact ⟨by simp; omega, fun c zs h => (join_polys hp hr c zs h).2⟩
theorem joinA_tot (cs : List (Int × List Int)) (i d : Int) : totS (joinA cs i d) ≤ 1048576 := by
  obtain ⟨h1, h2⟩ := joinA_len cs i d
  have h3 := lenS_le (joinA cs i d) 7 h2
  unfold totS
  omega
theorem sJoin_any (v : Value) (cs : List (Int × List Int)) (i d : Int) (w : World) (h1 : Nat) (hv : LiesSg w h1 v cs) (hn : cs.length ≤ 1048576) (hz : ∀ c zs, (c, zs) ∈ cs → zs.length ≤ 1048576) : Calls Try.prog 26 #[v, .int .i64 i, .int .i64 d] w (NewApB (joinA cs i d) (joinB cs i d) w) := by
  have HR := hidH (sRawJoin_any v cs i d w h1 hv hn hz)
  have HL := hidH (joinA_len cs i d)
  clear hv hz
  generalize joinA cs i d = gs at *
  generalize joinB cs i d = tb at *
  go_enter Try.func26, Try.ntmps26
  go_wp2_with fail
  refine HR.out.mono ?_; rintro e w2 ⟨u, rfl, hr, hb⟩
  have HB := hidH hb
  have HRR := hidH hr
  clear hb hr
  go_wp2_with fail
  refine (ownSgs_any u gs w2 _ HRR.out (by have := HL.out.1; omega) (fun c zs h => by have := HL.out.2 c zs h; omega)).mono ?_; rintro e w3 ⟨u3, rfl, hr, hb⟩
  have HB3 := hidH (bThen HB.out hb)
  have HR3 := hidH (hr.mono HB.out.size (Nat.le_refl _))
  clear hb hr
  go_wp2_with fail
  go_ret2
  exact ⟨_, rfl, HR3.out, HB3.out⟩
theorem join_any2 (v : Value) (cs : List (Int × List Int)) (i d : Int) (w : World) (h1 : Nat) (hv : LiesSg w h1 v cs) (hn : cs.length ≤ 1048576) (_ : ∀ c zs, (c, zs) ∈ cs → zs.length ≤ 1048576) : Calls Try.prog 24 #[v, .int .i64 i, .int .i64 d] w (NewApB (joinA cs i d) (joinB cs i d) w) := join_any v cs i d w h1 hv hn
end Go.Proofs.Ytgnoclnenhmakaa
