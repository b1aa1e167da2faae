/-
  The best schedule begins with the first engine; the walk of the law of BestSchedule. No conditions but that slices fit in memory.
-/
import Derived.Test.YtcinhmfjnjecdaaDskO
namespace Go.Proofs.Ytcinhmfjnjecdaa
set_option maxRecDepth 4000
open Go.RowKit
/-- Engines 0 and e exchanged. -/
def swp (e : Int) (g : Int) : Int := if g = 0 then e else if g = e then 0 else g
theorem swp_twice (e g : Int) : swp e (swp e g) = g := by
  unfold swp
  split
  · rename_i h
    split
    · rename_i h2; omega
    · rw [if_pos rfl]; omega
  · split
    · rw [if_pos rfl]; omega
    · rfl
theorem load_swp (T G : List Int) (e x : Int) : loadE T (G.map (swp e)) (swp e x) = loadE T G x := by
  induction T generalizing G with
  | nil => rfl
  | cons t T ih =>
    cases G with
    | nil => rfl
    | cons g G =>
      rw [List.map_cons]
      simp only [loadE]
      rw [ih]
      congr 1
      by_cases c : g = x
      · rw [if_pos c, if_pos (by rw [c])]
      · rw [if_neg c, if_neg (fun h => c (by rw [← swp_twice e g, h, swp_twice]))]
theorem swp_in (e g : Int) (m : Nat) (he : 0 ≤ e ∧ e < (m : Int)) (hg : 0 ≤ g ∧ g < (m : Int)) : 0 ≤ swp e g ∧ swp e g < (m : Int) := by
  unfold swp
  split
  · exact he
  · split
    · omega
    · exact hg
theorem most_swp (T G : List Int) (m : Nat) (e : Int) (he : 0 ≤ e ∧ e < (m : Int)) : mostL (loadsL T (G.map (swp e)) m) ≤ mostL (loadsL T G m) := by
  refine mostL_le _ _ (mostL_ge _) (fun j x hj => ?_)
  have hjn : j < m := by have := (List.getElem?_eq_some_iff.1 hj).1; rwa [loadsL_length] at this
  rw [loadsL_get _ _ _ _ hjn] at hj
  injection hj with hj
  have h1 := load_swp T G e (swp e (j : Int))
  rw [swp_twice] at h1
  have ⟨a, b⟩ := swp_in e (j : Int) m he (by omega)
  have h2 := mostL_load T G m (swp e (j : Int)).toNat (by omega)
  rw [Int.toNat_of_nonneg a] at h2
  omega
theorem foldl_keep_stay (T : List Int) (m : Nat) (A : List (List Int)) (s : Int × List Int) (h : ∀ q ∈ A, s.1 ≤ mostL (loadsL T q m)) : A.foldl (keepM T m) s = s := by
  induction A with
  | nil => rfl
  | cons a A ih =>
    rw [List.foldl_cons]
    have h1 := h a List.mem_cons_self
    have e : keepM T m s a = s := by unfold keepM; rw [if_neg (by omega)]
    rw [e]
    exact ih (fun q hq => h q (List.mem_cons_of_mem _ hq))
/-- The best schedule begins with the first engine. -/
theorem best_first (T : List Int) (m : Nat) (hm0 : 0 < m) (hm : m ≤ 3) (hT : timesOk T = true) (g : Int) (hg : (bestP T m).2[0]? = some g) : g = 0 := by
  have hall := best_all T m hm
  have ⟨hlb, _⟩ := isS_best T m hm0 hm hT
  have h0 := (List.getElem?_eq_some_iff.1 hg).1
  obtain ⟨r, hr⟩ : ∃ r, T.length = r + 1 := ⟨T.length - 1, by omega⟩
  obtain ⟨k, hk⟩ : ∃ k, m = k + 1 := ⟨m - 1, by omega⟩
  have hsplit : allS m T.length = (allS m r).map (((0 : Nat) : Int) :: ·) ++ blocks m r 1 k := by
    rw [hr, allS_blocks]
    conv => lhs; rw [show blocks m r 0 m = blocks m r 0 (k + 1) by rw [← hk]]
    rfl
  rw [hsplit, List.foldl_append] at hall
  generalize hA : (allS m r).map (((0 : Nat) : Int) :: ·) = A at *
  have ⟨h1, h2⟩ := foldl_keep_le T m A (8001, [])
  have hin : (A.foldl (keepM T m) (8001, [])).2 ∈ A := by
    have hz : (0 :: List.replicate r 0 : List Int) ∈ A := by
      obtain ⟨l, hl⟩ := allS_head m r hm0
      rw [← hA, hl]; exact List.mem_cons_self
    have hb := (most_bd T (0 :: List.replicate r 0) m hT).2
    have hlt := h2 _ hz
    rcases foldl_keep_in T m A (8001, []) with e | e
    · exfalso
      have hi : (A.foldl (keepM T m) (8001, [])).1 = 8001 ∨ (A.foldl (keepM T m) (8001, [])).2 ≠ [] := by
        by_cases c : A.foldl (keepM T m) (8001, []) = (8001, [])
        · rw [c]; exact Or.inl rfl
        · right
          intro hn
          have hne : ∀ (B : List (List Int)) (s : Int × List Int), (∀ q ∈ B, q ≠ []) → (B.foldl (keepM T m) s).2 = [] → B.foldl (keepM T m) s = s := by
            intro B
            induction B with
            | nil => intro s _ _; rfl
            | cons b B ih =>
              intro s hB hn
              rw [List.foldl_cons] at hn ⊢
              have e1 := ih (keepM T m s b) (fun q hq => hB q (List.mem_cons_of_mem _ hq)) hn
              rw [e1] at hn ⊢
              unfold keepM at hn ⊢
              split
              · rename_i hh; rw [if_pos hh] at hn; exact absurd hn (hB b List.mem_cons_self)
              · rfl
          refine c (hne A (8001, []) (fun q hq => ?_) hn)
          rw [← hA] at hq
          obtain ⟨p, _, rfl⟩ := List.mem_map.1 hq
          simp
      rcases hi with hi | hi
      · rw [hi] at hlt; omega
      · exact hi e
    · exact e
  have hstay : (blocks m r 1 k).foldl (keepM T m) (A.foldl (keepM T m) (8001, [])) = A.foldl (keepM T m) (8001, []) := by
    apply foldl_keep_stay
    intro q hq
    have hqm : q ∈ allS m T.length := by rw [hsplit]; exact List.mem_append.2 (Or.inr hq)
    have ⟨ql, qd⟩ := allS_mem m _ q hqm
    cases q with
    | nil => simp at ql; omega
    | cons e q =>
      have he := qd e List.mem_cons_self
      have hsw : (0 :: q.map (swp e) : List Int) ∈ A := by
        rw [← hA]
        refine List.mem_map.2 ⟨q.map (swp e), allS_all m r _ (by simp at ql ⊢; omega) (fun x hx => ?_), rfl⟩
        obtain ⟨y, hy, rfl⟩ := List.mem_map.1 hx
        exact swp_in e y m he (qd y (List.mem_cons_of_mem _ hy))
      have h3 := h2 _ hsw
      have h4 := most_swp T (e :: q) m e he
      rw [List.map_cons, show swp e e = 0 by unfold swp; split <;> simp_all] at h4
      omega
  rw [hstay] at hall
  rw [hall] at hg
  have hin2 : (A.foldl (keepM T m) (8001, [])).2 ∈ (allS m r).map (((0 : Nat) : Int) :: ·) := by rw [hA]; exact hin
  obtain ⟨p, _, hp⟩ := List.mem_map.1 hin2
  rw [← hp] at hg
  injection hg with hg
  rw [← hg]; rfl
theorem best_law (T G : List Int) (m : Nat) (hm0 : 0 < m) (hm : m ≤ 3) (hT : timesOk T = true) (hG : IsS T G m) : leastA T (m : Int) ≤ spanA T G (m : Int) := by
  have hle : leastA T (m : Int) = mostL (loadsL T (bestP T m).2 m) := by unfold leastA; rw [hT, engN m hm0 hm, Int.toNat_natCast]; rfl
  rw [hle, span_yes hT (engN m hm0 hm) hG.1 (givOk_of (fun j g hj => by have := hG.2 g (List.mem_of_getElem? hj); omega)), Int.toNat_natCast]
  exact best_min T m hm0 hm hT G hG
theorem bestA_nat (T : List Int) (m : Nat) (hm0 : 0 < m) (hm : m ≤ 3) (hT : timesOk T = true) : bestA T (m : Int) = (bestP T m).2 := by rw [bestA_yes hT (engN m hm0 hm), Int.toNat_natCast]
set_option maxHeartbeats 6400000 in
theorem lawBestSchedule (a : Option Addr) (len cap : Nat) (a2 : Option Addr) (len2 cap2 : Nat) (w : World) (hc : Came w a len cap) (hcb : Came w a2 len2 cap2) : Calls Try.prog 4 #[.slice a len cap, .slice a2 len2 cap2] w (Gives (.bool true) w) := by
  have HC := hidH hc
  have hc1 := hc.lenLe
  have hc2 := hc.capLe
  unfold maxLen at hc2
  by_cases hbig : 1048576 < len
  · go_enter Try.func4, Try.ntmps4
    go_wp2
    go_ret
    exact ⟨rfl, Below.refl _ _⟩
  have hsm : len ≤ 1048576 := by omega
  clear hbig hc
  have HCb := hidH hcb.bytes
  have hd1 := hcb.lenLe
  have hd2 := hcb.capLe
  unfold maxLen at hd2
  clear hcb
  by_cases hbig : 1048576 < len2
  · go_enter Try.func4, Try.ntmps4
    go_wp2
    go_ret
    exact ⟨rfl, Below.refl _ _⟩
  have hsm2 : len2 ≤ 1048576 := by omega
  clear hbig
  obtain ⟨i0, hi0, hz0, hz1, hz2⟩ := info_parts infoInt
  go_enter Try.func4, Try.ntmps4
  have B0 := hidH (Below.refl w.heap.size w)
  go_wp2_with fail
  refine (drawBest8 a len cap _ HC.out hsm).mono ?_; rintro e w1 ⟨v, zs, n, rfl, hz, hl9, hn0, hn1, hb⟩
  have B1 := hidH (bThen B0.out hb)
  have s1 := hb.size
  have LZ_1 := hidH hz
  clear hb B0  hz
  obtain ⟨za, zcap, rfl, zc1, zc2, _⟩ := LZ_1.out
  unfold maxLen at zc2
  go_wp2_with fail
  refine (bestG_any _ zs n _ _ _ LZ_1.out).mono ?_; rintro e w2 ⟨g, rfl, hr, hb⟩
  have B2 := hidH (bThen B1.out hb)
  have s2 := hb.size
  have LZ_2 := hidH (LZ_1.out.below hb)
  have G_2 := hidH hr
  clear hb B1 LZ_1 hr
  go_wp2_with fail
  refine (sBestG_any _ zs n _ _ _ LZ_2.out).mono ?_; rintro e w3 ⟨g2, rfl, hr, hb⟩
  have B3 := hidH (bThen B2.out hb)
  have s3 := hb.size
  have LZ_3 := hidH (LZ_2.out.below hb)
  have G_3 := hidH (G_2.out.below hb)
  have U_3 := hidH hr
  clear hb B2 LZ_2 G_2 hr
  obtain ⟨ga, gcap, rfl, gc1, gc2, _⟩ := G_3.out.lies
  unfold maxLen at gc2
  go_wp2_with fail
  refine (deInts_yes _ _ _ _ _ _ _ _ G_3.out.lies U_3.out.lies).mono ?_; rintro e w4 ⟨rfl, hb⟩
  have B4 := hidH (bThen B3.out hb)
  have s4 := hb.size
  have LZ_4 := hidH (LZ_3.out.below hb)
  have G_4 := hidH (G_3.out.below hb)
  have U_4 := hidH (U_3.out.below hb)
  clear hb B3 LZ_3 G_3 U_3
  clear U_4
  cases ht : timesOk zs
  · have HT := hidH ht
    clear ht
    go_wp2_with fail
    refine (timesB_any _ zs _ _ _ LZ_4.out).mono ?_; rintro e w5 ⟨rfl, hb⟩
    rw [HT.out]
    have B5 := hidH (bThen B4.out hb)
    have s5 := hb.size
    have LZ_5 := hidH (LZ_4.out.below hb)
    have G_5 := hidH (G_4.out.below hb)
    clear hb B4 LZ_4 G_4
    go_wp2_with fail
    refine (sBestG_any _ zs n _ _ _ LZ_5.out).mono ?_; rintro e w6 ⟨g2, rfl, hr, hb⟩
    have B6 := hidH (bThen B5.out hb)
    have s6 := hb.size
    have LZ_6 := hidH (LZ_5.out.below hb)
    have G_6 := hidH (G_5.out.below hb)
    have U_6 := hidH hr
    clear hb B5 LZ_5 G_5 hr
    go_wp2_with fail
    refine (deInts_yes _ _ _ _ _ _ _ _ G_6.out.lies U_6.out.lies).mono ?_; rintro e w7 ⟨rfl, hb⟩
    have B7 := hidH (bThen B6.out hb)
    have s7 := hb.size
    have LZ_7 := hidH (LZ_6.out.below hb)
    have G_7 := hidH (G_6.out.below hb)
    have U_7 := hidH (U_6.out.below hb)
    clear hb B6 LZ_6 G_6 U_6
    go_wp2_with fail
    go_ret
    exact ⟨rfl, B7.out⟩
  · have HT := hidH ht
    clear ht
    go_wp2_with fail
    refine (timesB_any _ zs _ _ _ LZ_4.out).mono ?_; rintro e w5 ⟨rfl, hb⟩
    rw [HT.out]
    have B5 := hidH (bThen B4.out hb)
    have s5 := hb.size
    have LZ_5 := hidH (LZ_4.out.below hb)
    have G_5 := hidH (G_4.out.below hb)
    clear hb B4 LZ_4 G_4
    by_cases hlo : n < 1
    · skip
      go_wp2_with fail
      refine (sBestG_any _ zs n _ _ _ LZ_5.out).mono ?_; rintro e w6 ⟨g2, rfl, hr, hb⟩
      have B6 := hidH (bThen B5.out hb)
      have s6 := hb.size
      have LZ_6 := hidH (LZ_5.out.below hb)
      have G_6 := hidH (G_5.out.below hb)
      have U_6 := hidH hr
      clear hb B5 LZ_5 G_5 hr
      go_wp2_with fail
      refine (deInts_yes _ _ _ _ _ _ _ _ G_6.out.lies U_6.out.lies).mono ?_; rintro e w7 ⟨rfl, hb⟩
      have B7 := hidH (bThen B6.out hb)
      have s7 := hb.size
      have LZ_7 := hidH (LZ_6.out.below hb)
      have G_7 := hidH (G_6.out.below hb)
      have U_7 := hidH (U_6.out.below hb)
      clear hb B6 LZ_6 G_6 U_6
      go_wp2_with fail
      go_ret
      exact ⟨rfl, B7.out⟩
    by_cases hhi : 3 < n
    · skip
      go_wp2_with fail
      refine (sBestG_any _ zs n _ _ _ LZ_5.out).mono ?_; rintro e w6 ⟨g2, rfl, hr, hb⟩
      have B6 := hidH (bThen B5.out hb)
      have s6 := hb.size
      have LZ_6 := hidH (LZ_5.out.below hb)
      have G_6 := hidH (G_5.out.below hb)
      have U_6 := hidH hr
      clear hb B5 LZ_5 G_5 hr
      go_wp2_with fail
      refine (deInts_yes _ _ _ _ _ _ _ _ G_6.out.lies U_6.out.lies).mono ?_; rintro e w7 ⟨rfl, hb⟩
      have B7 := hidH (bThen B6.out hb)
      have s7 := hb.size
      have LZ_7 := hidH (LZ_6.out.below hb)
      have G_7 := hidH (G_6.out.below hb)
      have U_7 := hidH (U_6.out.below hb)
      clear hb B6 LZ_6 G_6 U_6
      go_wp2_with fail
      go_ret
      exact ⟨rfl, B7.out⟩
    rcases (show n = ((1 : Nat) : Int) ∨ n = ((2 : Nat) : Int) ∨ n = ((3 : Nat) : Int) by omega) with rfl | rfl | rfl
    · have ⟨_, q2, _, q4, _⟩ := greedy_law zs 1 (by omega) (by omega) HT.out
      have HLW := hidH (fun gs (h : IsS zs gs 1) => best_law zs gs 1 (by omega) (by omega) HT.out h)
      have HFI := hidH (best_first zs 1 (by omega) (by omega) HT.out)
      have HIB := hidH (isS_best zs 1 (by omega) (by omega) HT.out)
      rw [← bestA_nat zs 1 (by omega) (by omega) HT.out] at HFI HIB
      have hl8 := (timesOk_parts HT.out).1
      have HSB := hidH (span_best zs ((1 : Nat) : Int))
      have HGR := hidH (fun W lo0 hi0 h0 => greedyS_any (.slice za zs.length zcap) zs ((1 : Nat) : Int) W lo0 hi0 h0)
      have HSS := hidH (fun v1 gs W lo1 hi1 lo0 hi0 (h0 : Lies W lo0 hi0 _ zs) h1 => spanOf_any (.slice za zs.length zcap) zs v1 gs ((1 : Nat) : Int) W lo0 hi0 lo1 hi1 h0 h1)
      have HLS := hidH (fun W lo0 hi0 h0 => leastS_any (.slice za zs.length zcap) zs ((1 : Nat) : Int) W lo0 hi0 h0)
      generalize leastA zs ((1 : Nat) : Int) = be at *
      generalize bestA zs ((1 : Nat) : Int) = bs at *
      go_wp2_with fail
      refine (HSS.out _ bs _ _ _ _ _ LZ_5.out G_5.out.lies).mono ?_; rintro e w6 ⟨rfl, hb⟩
      rw [HSB.out]
      have B6 := hidH (bThen B5.out hb)
      have s6 := hb.size
      have LZ_6 := hidH (LZ_5.out.below hb)
      have G_6 := hidH (G_5.out.below hb)
      clear hb B5 LZ_5 G_5
      have HO := hidH (World.ownsRow_made (base := w6.heap.size) (e := 3) (size := 1) w6 #[] 0 (Nat.le_refl _) (Nat.zero_le _) rfl)
      have HBa := hidH ((Below.refl w6.heap.size w6).alloc (Nat.le_refl _) (.cells #[] 3))
      go_wp2_with fail
      go_loopw [9, 10] (fun o i wr => ∃ (k : Nat) (ov : Value) (gs : List Int), k ≤ zs.length ∧ i = .int .i64 k ∧ ov = o ∧ Aside (gs.length = k ∧ ∀ g ∈ gs, 0 ≤ g ∧ g < ((1 : Nat) : Int)) ∧ wr.ownsRow w6.heap.size 3 1 ov k (ints gs) ∧ Below w6.heap.size w6 wr) (fun _ i _ => zs.length - (intOf i).toNat)
      case atStart => exact ⟨0, _, [], Nat.zero_le _, rfl, rfl, ⟨rfl, fun g h => by cases h⟩, HO.out, HBa.out⟩
      case round =>
        obtain ⟨k, ov, gs, hk, rfl, rfl, hgs, hown, hb⟩ := hrel
        have HGS := hidH hgs
        have HW := hidH hown
        have HBq := hidH hb
        have hszq : w6.heap.size ≤ wr.heap.size := hb.size
        clear hgs hown hb
        by_cases hlt : k < zs.length
        · by_cases hmore : 0 < len2
          · obtain ⟨q, hq⟩ : ∃ q, q = k % len2 := ⟨_, rfl⟩
            have hql : q < len2 := by rw [hq]; exact Nat.mod_lt _ hmore
            have hmod : (k : Int).tmod (len2 : Int) = (q : Int) := by rw [hq, Int.tmod_eq_emod_of_nonneg (by omega)]; omega
            have hmod2 : (k : Int) % (len2 : Int) = (q : Int) := by rw [hq]; omega
            have hl20 : ((len2 : Int) == 0) = false := beq_eq_false_iff_ne.2 (by omega)
            obtain ⟨b2, o2, x, rfl, hb2, x0, x1, hx⟩ := HCb.out q hql
            have hxr : wr.cell? ⟨b2, o2 + q, none⟩ = some (.int .u8 x) := by
              have hb5 := bThen B6.out HBq.out
              rw [hb5.cell (p := ⟨b2, o2 + q, none⟩) hb2]; exact hx
            have HD := hidH (show (0 : Int) ≤ 0 ∧ 0 < ((1 : Nat) : Int) by omega)
            have hdm : (x + (k : Int)).tmod 1 = (x + k) % 1 := Int.tmod_eq_emod_of_nonneg (by omega)
            have hcv : IntKind.i64.wrap x = x := IntWalk.i64_in _ (by omega)
            clear hq hx
            go_wp2_with (at_builtin; refine wpList_append_own _ rfl _ _ 23 rfl w6.heap.size 3 i0 (.int .i64 0) 1 8 Try.underlying23 hi0 hz0 hz1 hz2 rfl (by decide) _ _ _ rfl (owns_below HW.out ((Below.refl _ wr).alloc (Nat.le_refl _) _)) ⟨wr.heap.size, 0, none⟩ 1 1 [.int .i64 0] rfl rfl (news_one wr _ _) (one_one _) (by unfold maxLen; omega) (by omega) (by simp; omega) ?_)
            intro v' w9 hown1 hgrow _
            have HR9 := hidH hown1
            have HG9 := hidH hgrow
            clear hown1 hgrow
            go_wp2_with fail
            go_roundw
            case rel =>
              refine ⟨k + 1, v', gs ++ [0], by omega, by go_num, rfl, ⟨by rw [List.length_append, HGS.out.1]; rfl, fun g hg => ?_⟩, by rw [ints_append]; exact HR9.out, ?_⟩
              · rcases List.mem_append.1 hg with h | h
                · exact HGS.out.2 g h
                · obtain rfl := List.mem_singleton.1 h; exact HD.out
              · exact (HBq.out.alloc hszq _).grown HG9.out (by simp; omega) fun g hg => (HW.out.lt g hg).1
            case measure => simp [intOf]; omega
          · have HD := hidH (show (0 : Int) ≤ 0 ∧ 0 < ((1 : Nat) : Int) by omega)
            have hdm : (k : Int).tmod 1 = (k : Int) % 1 := Int.tmod_eq_emod_of_nonneg (by omega)
            go_wp2_with (at_builtin; refine wpList_append_own _ rfl _ _ 23 rfl w6.heap.size 3 i0 (.int .i64 0) 1 8 Try.underlying23 hi0 hz0 hz1 hz2 rfl (by decide) _ _ _ rfl (owns_below HW.out ((Below.refl _ wr).alloc (Nat.le_refl _) _)) ⟨wr.heap.size, 0, none⟩ 1 1 [.int .i64 0] rfl rfl (news_one wr _ _) (one_one _) (by unfold maxLen; omega) (by omega) (by simp; omega) ?_)
            intro v' w9 hown1 hgrow _
            have HR9 := hidH hown1
            have HG9 := hidH hgrow
            clear hown1 hgrow
            go_wp2_with fail
            go_roundw
            case rel =>
              refine ⟨k + 1, v', gs ++ [0], by omega, by go_num, rfl, ⟨by rw [List.length_append, HGS.out.1]; rfl, fun g hg => ?_⟩, by rw [ints_append]; exact HR9.out, ?_⟩
              · rcases List.mem_append.1 hg with h | h
                · exact HGS.out.2 g h
                · obtain rfl := List.mem_singleton.1 h; exact HD.out
              · exact (HBq.out.alloc hszq _).grown HG9.out (by simp; omega) fun g hg => (HW.out.lt g hg).1
            case measure => simp [intOf]; omega
        · obtain rfl : k = zs.length := by omega
          have q6 := HLW.out gs ⟨HGS.out.1, HGS.out.2⟩
          have HRV := hidH (row_of_owns HW.out).1
          have HBB := hidH (bThen B6.out HBq.out)
          have HLZ := hidH (LZ_6.out.below HBq.out)
          have HG9 := hidH (G_6.out.below HBq.out)
          have HS1 := hidH (fun v1 W lo1 hi1 lo0 hi0 h0 h1 => HSS.out v1 gs W lo1 hi1 lo0 hi0 h0 h1)
          have HS2 := hidH (fun v1 W lo1 hi1 lo0 hi0 h0 h1 => HSS.out v1 (greedyA zs ((1 : Nat) : Int)) W lo1 hi1 lo0 hi0 h0 h1)
          generalize spanA zs gs ((1 : Nat) : Int) = sg at *
          generalize spanA zs (greedyA zs ((1 : Nat) : Int)) ((1 : Nat) : Int) = sgr at *
          by_cases hbl : 0 < bs.length
          · have hbe : ((bs.length : Int) == 0) = false := beq_eq_false_iff_ne.2 (by omega)
            obtain ⟨b0, hb0⟩ := get_lt bs 0 hbl
            obtain rfl := HFI.out b0 hb0
            have HB0 := hidH hb0
            clear hb0
            go_wp2_with fail
            refine (HLS.out wr _ _ HLZ.out).mono ?_; rintro e w11 ⟨rfl, hb⟩
            have BB11 := hidH (bThen HBB.out hb)
            have LZ11 := hidH (HLZ.out.below hb)
            have RV11 := hidH (HRV.out.below hb)
            have GG11 := hidH (HG9.out.below hb)
            clear hb
            go_wp2_with fail
            refine (HS1.out _ w11 _ _ _ _ LZ11.out RV11.out.lies).mono ?_; rintro e w12 ⟨rfl, hb⟩
            have BB12 := hidH (bThen BB11.out hb)
            have LZ12 := hidH (LZ11.out.below hb)
            have GG12 := hidH (GG11.out.below hb)
            clear hb
            go_wp2_with fail
            refine (HGR.out w12 _ _ LZ12.out).mono ?_; rintro e w13 ⟨vg, rfl, hr, hb⟩
            have BB13 := hidH (bThen BB12.out hb)
            have LZ13 := hidH (LZ12.out.below hb)
            have GG13 := hidH (GG12.out.below hb)
            have VG13 := hidH hr
            clear hb hr
            go_wp2_with fail
            refine (HS2.out vg w13 _ _ _ _ LZ13.out VG13.out.lies).mono ?_; rintro e w14 ⟨rfl, hb⟩
            have BB14 := hidH (bThen BB13.out hb)
            have GG14 := hidH (GG13.out.below hb)
            clear hb
            obtain ⟨_, _, e1, _, _, _, h14⟩ := GG14.out.lies
            injection e1 with e1 _ e3
            subst e1 e3
            obtain ⟨bb, oo, rfl, _, _, cbb⟩ := h14 0 0 HB0.out
            have cb0 : w14.cell? ⟨bb, oo, none⟩ = some (.int .i64 0) := cbb
            clear cbb
            go_wp2_with fail
            go_ret
            exact ⟨rfl, BB14.out⟩
          · have hbe : ((bs.length : Int) == 0) = true := beq_iff_eq.2 (by omega)
            go_wp2_with fail
            refine (HLS.out wr _ _ HLZ.out).mono ?_; rintro e w11 ⟨rfl, hb⟩
            have BB11 := hidH (bThen HBB.out hb)
            have LZ11 := hidH (HLZ.out.below hb)
            have RV11 := hidH (HRV.out.below hb)
            have GG11 := hidH (HG9.out.below hb)
            clear hb
            go_wp2_with fail
            refine (HS1.out _ w11 _ _ _ _ LZ11.out RV11.out.lies).mono ?_; rintro e w12 ⟨rfl, hb⟩
            have BB12 := hidH (bThen BB11.out hb)
            have LZ12 := hidH (LZ11.out.below hb)
            have GG12 := hidH (GG11.out.below hb)
            clear hb
            go_wp2_with fail
            refine (HGR.out w12 _ _ LZ12.out).mono ?_; rintro e w13 ⟨vg, rfl, hr, hb⟩
            have BB13 := hidH (bThen BB12.out hb)
            have LZ13 := hidH (LZ12.out.below hb)
            have GG13 := hidH (GG12.out.below hb)
            have VG13 := hidH hr
            clear hb hr
            go_wp2_with fail
            refine (HS2.out vg w13 _ _ _ _ LZ13.out VG13.out.lies).mono ?_; rintro e w14 ⟨rfl, hb⟩
            have BB14 := hidH (bThen BB13.out hb)
            have GG14 := hidH (GG13.out.below hb)
            clear hb
            go_wp2_with fail
            go_ret
            exact ⟨rfl, BB14.out⟩
    · have ⟨_, q2, _, q4, _⟩ := greedy_law zs 2 (by omega) (by omega) HT.out
      have HLW := hidH (fun gs (h : IsS zs gs 2) => best_law zs gs 2 (by omega) (by omega) HT.out h)
      have HFI := hidH (best_first zs 2 (by omega) (by omega) HT.out)
      have HIB := hidH (isS_best zs 2 (by omega) (by omega) HT.out)
      rw [← bestA_nat zs 2 (by omega) (by omega) HT.out] at HFI HIB
      have hl8 := (timesOk_parts HT.out).1
      have HSB := hidH (span_best zs ((2 : Nat) : Int))
      have HGR := hidH (fun W lo0 hi0 h0 => greedyS_any (.slice za zs.length zcap) zs ((2 : Nat) : Int) W lo0 hi0 h0)
      have HSS := hidH (fun v1 gs W lo1 hi1 lo0 hi0 (h0 : Lies W lo0 hi0 _ zs) h1 => spanOf_any (.slice za zs.length zcap) zs v1 gs ((2 : Nat) : Int) W lo0 hi0 lo1 hi1 h0 h1)
      have HLS := hidH (fun W lo0 hi0 h0 => leastS_any (.slice za zs.length zcap) zs ((2 : Nat) : Int) W lo0 hi0 h0)
      generalize leastA zs ((2 : Nat) : Int) = be at *
      generalize bestA zs ((2 : Nat) : Int) = bs at *
      go_wp2_with fail
      refine (HSS.out _ bs _ _ _ _ _ LZ_5.out G_5.out.lies).mono ?_; rintro e w6 ⟨rfl, hb⟩
      rw [HSB.out]
      have B6 := hidH (bThen B5.out hb)
      have s6 := hb.size
      have LZ_6 := hidH (LZ_5.out.below hb)
      have G_6 := hidH (G_5.out.below hb)
      clear hb B5 LZ_5 G_5
      have HO := hidH (World.ownsRow_made (base := w6.heap.size) (e := 3) (size := 1) w6 #[] 0 (Nat.le_refl _) (Nat.zero_le _) rfl)
      have HBa := hidH ((Below.refl w6.heap.size w6).alloc (Nat.le_refl _) (.cells #[] 3))
      go_wp2_with fail
      go_loopw [9, 10] (fun o i wr => ∃ (k : Nat) (ov : Value) (gs : List Int), k ≤ zs.length ∧ i = .int .i64 k ∧ ov = o ∧ Aside (gs.length = k ∧ ∀ g ∈ gs, 0 ≤ g ∧ g < ((2 : Nat) : Int)) ∧ wr.ownsRow w6.heap.size 3 1 ov k (ints gs) ∧ Below w6.heap.size w6 wr) (fun _ i _ => zs.length - (intOf i).toNat)
      case atStart => exact ⟨0, _, [], Nat.zero_le _, rfl, rfl, ⟨rfl, fun g h => by cases h⟩, HO.out, HBa.out⟩
      case round =>
        obtain ⟨k, ov, gs, hk, rfl, rfl, hgs, hown, hb⟩ := hrel
        have HGS := hidH hgs
        have HW := hidH hown
        have HBq := hidH hb
        have hszq : w6.heap.size ≤ wr.heap.size := hb.size
        clear hgs hown hb
        by_cases hlt : k < zs.length
        · by_cases hmore : 0 < len2
          · obtain ⟨q, hq⟩ : ∃ q, q = k % len2 := ⟨_, rfl⟩
            have hql : q < len2 := by rw [hq]; exact Nat.mod_lt _ hmore
            have hmod : (k : Int).tmod (len2 : Int) = (q : Int) := by rw [hq, Int.tmod_eq_emod_of_nonneg (by omega)]; omega
            have hmod2 : (k : Int) % (len2 : Int) = (q : Int) := by rw [hq]; omega
            have hl20 : ((len2 : Int) == 0) = false := beq_eq_false_iff_ne.2 (by omega)
            obtain ⟨b2, o2, x, rfl, hb2, x0, x1, hx⟩ := HCb.out q hql
            have hxr : wr.cell? ⟨b2, o2 + q, none⟩ = some (.int .u8 x) := by
              have hb5 := bThen B6.out HBq.out
              rw [hb5.cell (p := ⟨b2, o2 + q, none⟩) hb2]; exact hx
            have HD := hidH (show (0 : Int) ≤ (x + k) % 2 ∧ (x + k) % 2 < ((2 : Nat) : Int) by omega)
            have hdm : (x + (k : Int)).tmod 2 = (x + k) % 2 := Int.tmod_eq_emod_of_nonneg (by omega)
            have hcv : IntKind.i64.wrap x = x := IntWalk.i64_in _ (by omega)
            clear hq hx
            go_wp2_with (at_builtin; refine wpList_append_own _ rfl _ _ 23 rfl w6.heap.size 3 i0 (.int .i64 0) 1 8 Try.underlying23 hi0 hz0 hz1 hz2 rfl (by decide) _ _ _ rfl (owns_below HW.out ((Below.refl _ wr).alloc (Nat.le_refl _) _)) ⟨wr.heap.size, 0, none⟩ 1 1 [.int .i64 ((x + k) % 2)] rfl rfl (news_one wr _ _) (one_one _) (by unfold maxLen; omega) (by omega) (by simp; omega) ?_)
            intro v' w9 hown1 hgrow _
            have HR9 := hidH hown1
            have HG9 := hidH hgrow
            clear hown1 hgrow
            go_wp2_with fail
            go_roundw
            case rel =>
              refine ⟨k + 1, v', gs ++ [(x + k) % 2], by omega, by go_num, rfl, ⟨by rw [List.length_append, HGS.out.1]; rfl, fun g hg => ?_⟩, by rw [ints_append]; exact HR9.out, ?_⟩
              · rcases List.mem_append.1 hg with h | h
                · exact HGS.out.2 g h
                · obtain rfl := List.mem_singleton.1 h; exact HD.out
              · exact (HBq.out.alloc hszq _).grown HG9.out (by simp; omega) fun g hg => (HW.out.lt g hg).1
            case measure => simp [intOf]; omega
          · have HD := hidH (show (0 : Int) ≤ (k : Int) % 2 ∧ (k : Int) % 2 < ((2 : Nat) : Int) by omega)
            have hdm : (k : Int).tmod 2 = (k : Int) % 2 := Int.tmod_eq_emod_of_nonneg (by omega)
            go_wp2_with (at_builtin; refine wpList_append_own _ rfl _ _ 23 rfl w6.heap.size 3 i0 (.int .i64 0) 1 8 Try.underlying23 hi0 hz0 hz1 hz2 rfl (by decide) _ _ _ rfl (owns_below HW.out ((Below.refl _ wr).alloc (Nat.le_refl _) _)) ⟨wr.heap.size, 0, none⟩ 1 1 [.int .i64 ((k : Int) % 2)] rfl rfl (news_one wr _ _) (one_one _) (by unfold maxLen; omega) (by omega) (by simp; omega) ?_)
            intro v' w9 hown1 hgrow _
            have HR9 := hidH hown1
            have HG9 := hidH hgrow
            clear hown1 hgrow
            go_wp2_with fail
            go_roundw
            case rel =>
              refine ⟨k + 1, v', gs ++ [(k : Int) % 2], by omega, by go_num, rfl, ⟨by rw [List.length_append, HGS.out.1]; rfl, fun g hg => ?_⟩, by rw [ints_append]; exact HR9.out, ?_⟩
              · rcases List.mem_append.1 hg with h | h
                · exact HGS.out.2 g h
                · obtain rfl := List.mem_singleton.1 h; exact HD.out
              · exact (HBq.out.alloc hszq _).grown HG9.out (by simp; omega) fun g hg => (HW.out.lt g hg).1
            case measure => simp [intOf]; omega
        · obtain rfl : k = zs.length := by omega
          have q6 := HLW.out gs ⟨HGS.out.1, HGS.out.2⟩
          have HRV := hidH (row_of_owns HW.out).1
          have HBB := hidH (bThen B6.out HBq.out)
          have HLZ := hidH (LZ_6.out.below HBq.out)
          have HG9 := hidH (G_6.out.below HBq.out)
          have HS1 := hidH (fun v1 W lo1 hi1 lo0 hi0 h0 h1 => HSS.out v1 gs W lo1 hi1 lo0 hi0 h0 h1)
          have HS2 := hidH (fun v1 W lo1 hi1 lo0 hi0 h0 h1 => HSS.out v1 (greedyA zs ((2 : Nat) : Int)) W lo1 hi1 lo0 hi0 h0 h1)
          generalize spanA zs gs ((2 : Nat) : Int) = sg at *
          generalize spanA zs (greedyA zs ((2 : Nat) : Int)) ((2 : Nat) : Int) = sgr at *
          by_cases hbl : 0 < bs.length
          · have hbe : ((bs.length : Int) == 0) = false := beq_eq_false_iff_ne.2 (by omega)
            obtain ⟨b0, hb0⟩ := get_lt bs 0 hbl
            obtain rfl := HFI.out b0 hb0
            have HB0 := hidH hb0
            clear hb0
            go_wp2_with fail
            refine (HLS.out wr _ _ HLZ.out).mono ?_; rintro e w11 ⟨rfl, hb⟩
            have BB11 := hidH (bThen HBB.out hb)
            have LZ11 := hidH (HLZ.out.below hb)
            have RV11 := hidH (HRV.out.below hb)
            have GG11 := hidH (HG9.out.below hb)
            clear hb
            go_wp2_with fail
            refine (HS1.out _ w11 _ _ _ _ LZ11.out RV11.out.lies).mono ?_; rintro e w12 ⟨rfl, hb⟩
            have BB12 := hidH (bThen BB11.out hb)
            have LZ12 := hidH (LZ11.out.below hb)
            have GG12 := hidH (GG11.out.below hb)
            clear hb
            go_wp2_with fail
            refine (HGR.out w12 _ _ LZ12.out).mono ?_; rintro e w13 ⟨vg, rfl, hr, hb⟩
            have BB13 := hidH (bThen BB12.out hb)
            have LZ13 := hidH (LZ12.out.below hb)
            have GG13 := hidH (GG12.out.below hb)
            have VG13 := hidH hr
            clear hb hr
            go_wp2_with fail
            refine (HS2.out vg w13 _ _ _ _ LZ13.out VG13.out.lies).mono ?_; rintro e w14 ⟨rfl, hb⟩
            have BB14 := hidH (bThen BB13.out hb)
            have GG14 := hidH (GG13.out.below hb)
            clear hb
            obtain ⟨_, _, e1, _, _, _, h14⟩ := GG14.out.lies
            injection e1 with e1 _ e3
            subst e1 e3
            obtain ⟨bb, oo, rfl, _, _, cbb⟩ := h14 0 0 HB0.out
            have cb0 : w14.cell? ⟨bb, oo, none⟩ = some (.int .i64 0) := cbb
            clear cbb
            go_wp2_with fail
            go_ret
            exact ⟨rfl, BB14.out⟩
          · have hbe : ((bs.length : Int) == 0) = true := beq_iff_eq.2 (by omega)
            go_wp2_with fail
            refine (HLS.out wr _ _ HLZ.out).mono ?_; rintro e w11 ⟨rfl, hb⟩
            have BB11 := hidH (bThen HBB.out hb)
            have LZ11 := hidH (HLZ.out.below hb)
            have RV11 := hidH (HRV.out.below hb)
            have GG11 := hidH (HG9.out.below hb)
            clear hb
            go_wp2_with fail
            refine (HS1.out _ w11 _ _ _ _ LZ11.out RV11.out.lies).mono ?_; rintro e w12 ⟨rfl, hb⟩
            have BB12 := hidH (bThen BB11.out hb)
            have LZ12 := hidH (LZ11.out.below hb)
            have GG12 := hidH (GG11.out.below hb)
            clear hb
            go_wp2_with fail
            refine (HGR.out w12 _ _ LZ12.out).mono ?_; rintro e w13 ⟨vg, rfl, hr, hb⟩
            have BB13 := hidH (bThen BB12.out hb)
            have LZ13 := hidH (LZ12.out.below hb)
            have GG13 := hidH (GG12.out.below hb)
            have VG13 := hidH hr
            clear hb hr
            go_wp2_with fail
            refine (HS2.out vg w13 _ _ _ _ LZ13.out VG13.out.lies).mono ?_; rintro e w14 ⟨rfl, hb⟩
            have BB14 := hidH (bThen BB13.out hb)
            have GG14 := hidH (GG13.out.below hb)
            clear hb
            go_wp2_with fail
            go_ret
            exact ⟨rfl, BB14.out⟩
    · have ⟨_, q2, _, q4, _⟩ := greedy_law zs 3 (by omega) (by omega) HT.out
      have HLW := hidH (fun gs (h : IsS zs gs 3) => best_law zs gs 3 (by omega) (by omega) HT.out h)
      have HFI := hidH (best_first zs 3 (by omega) (by omega) HT.out)
      have HIB := hidH (isS_best zs 3 (by omega) (by omega) HT.out)
      rw [← bestA_nat zs 3 (by omega) (by omega) HT.out] at HFI HIB
      have hl8 := (timesOk_parts HT.out).1
      have HSB := hidH (span_best zs ((3 : Nat) : Int))
      have HGR := hidH (fun W lo0 hi0 h0 => greedyS_any (.slice za zs.length zcap) zs ((3 : Nat) : Int) W lo0 hi0 h0)
      have HSS := hidH (fun v1 gs W lo1 hi1 lo0 hi0 (h0 : Lies W lo0 hi0 _ zs) h1 => spanOf_any (.slice za zs.length zcap) zs v1 gs ((3 : Nat) : Int) W lo0 hi0 lo1 hi1 h0 h1)
      have HLS := hidH (fun W lo0 hi0 h0 => leastS_any (.slice za zs.length zcap) zs ((3 : Nat) : Int) W lo0 hi0 h0)
      generalize leastA zs ((3 : Nat) : Int) = be at *
      generalize bestA zs ((3 : Nat) : Int) = bs at *
      go_wp2_with fail
      refine (HSS.out _ bs _ _ _ _ _ LZ_5.out G_5.out.lies).mono ?_; rintro e w6 ⟨rfl, hb⟩
      rw [HSB.out]
      have B6 := hidH (bThen B5.out hb)
      have s6 := hb.size
      have LZ_6 := hidH (LZ_5.out.below hb)
      have G_6 := hidH (G_5.out.below hb)
      clear hb B5 LZ_5 G_5
      have HO := hidH (World.ownsRow_made (base := w6.heap.size) (e := 3) (size := 1) w6 #[] 0 (Nat.le_refl _) (Nat.zero_le _) rfl)
      have HBa := hidH ((Below.refl w6.heap.size w6).alloc (Nat.le_refl _) (.cells #[] 3))
      go_wp2_with fail
      go_loopw [9, 10] (fun o i wr => ∃ (k : Nat) (ov : Value) (gs : List Int), k ≤ zs.length ∧ i = .int .i64 k ∧ ov = o ∧ Aside (gs.length = k ∧ ∀ g ∈ gs, 0 ≤ g ∧ g < ((3 : Nat) : Int)) ∧ wr.ownsRow w6.heap.size 3 1 ov k (ints gs) ∧ Below w6.heap.size w6 wr) (fun _ i _ => zs.length - (intOf i).toNat)
      case atStart => exact ⟨0, _, [], Nat.zero_le _, rfl, rfl, ⟨rfl, fun g h => by cases h⟩, HO.out, HBa.out⟩
      case round =>
        obtain ⟨k, ov, gs, hk, rfl, rfl, hgs, hown, hb⟩ := hrel
        have HGS := hidH hgs
        have HW := hidH hown
        have HBq := hidH hb
        have hszq : w6.heap.size ≤ wr.heap.size := hb.size
        clear hgs hown hb
        by_cases hlt : k < zs.length
        · by_cases hmore : 0 < len2
          · obtain ⟨q, hq⟩ : ∃ q, q = k % len2 := ⟨_, rfl⟩
            have hql : q < len2 := by rw [hq]; exact Nat.mod_lt _ hmore
            have hmod : (k : Int).tmod (len2 : Int) = (q : Int) := by rw [hq, Int.tmod_eq_emod_of_nonneg (by omega)]; omega
            have hmod2 : (k : Int) % (len2 : Int) = (q : Int) := by rw [hq]; omega
            have hl20 : ((len2 : Int) == 0) = false := beq_eq_false_iff_ne.2 (by omega)
            obtain ⟨b2, o2, x, rfl, hb2, x0, x1, hx⟩ := HCb.out q hql
            have hxr : wr.cell? ⟨b2, o2 + q, none⟩ = some (.int .u8 x) := by
              have hb5 := bThen B6.out HBq.out
              rw [hb5.cell (p := ⟨b2, o2 + q, none⟩) hb2]; exact hx
            have HD := hidH (show (0 : Int) ≤ (x + k) % 3 ∧ (x + k) % 3 < ((3 : Nat) : Int) by omega)
            have hdm : (x + (k : Int)).tmod 3 = (x + k) % 3 := Int.tmod_eq_emod_of_nonneg (by omega)
            have hcv : IntKind.i64.wrap x = x := IntWalk.i64_in _ (by omega)
            clear hq hx
            go_wp2_with (at_builtin; refine wpList_append_own _ rfl _ _ 23 rfl w6.heap.size 3 i0 (.int .i64 0) 1 8 Try.underlying23 hi0 hz0 hz1 hz2 rfl (by decide) _ _ _ rfl (owns_below HW.out ((Below.refl _ wr).alloc (Nat.le_refl _) _)) ⟨wr.heap.size, 0, none⟩ 1 1 [.int .i64 ((x + k) % 3)] rfl rfl (news_one wr _ _) (one_one _) (by unfold maxLen; omega) (by omega) (by simp; omega) ?_)
            intro v' w9 hown1 hgrow _
            have HR9 := hidH hown1
            have HG9 := hidH hgrow
            clear hown1 hgrow
            go_wp2_with fail
            go_roundw
            case rel =>
              refine ⟨k + 1, v', gs ++ [(x + k) % 3], by omega, by go_num, rfl, ⟨by rw [List.length_append, HGS.out.1]; rfl, fun g hg => ?_⟩, by rw [ints_append]; exact HR9.out, ?_⟩
              · rcases List.mem_append.1 hg with h | h
                · exact HGS.out.2 g h
                · obtain rfl := List.mem_singleton.1 h; exact HD.out
              · exact (HBq.out.alloc hszq _).grown HG9.out (by simp; omega) fun g hg => (HW.out.lt g hg).1
            case measure => simp [intOf]; omega
          · have HD := hidH (show (0 : Int) ≤ (k : Int) % 3 ∧ (k : Int) % 3 < ((3 : Nat) : Int) by omega)
            have hdm : (k : Int).tmod 3 = (k : Int) % 3 := Int.tmod_eq_emod_of_nonneg (by omega)
            go_wp2_with (at_builtin; refine wpList_append_own _ rfl _ _ 23 rfl w6.heap.size 3 i0 (.int .i64 0) 1 8 Try.underlying23 hi0 hz0 hz1 hz2 rfl (by decide) _ _ _ rfl (owns_below HW.out ((Below.refl _ wr).alloc (Nat.le_refl _) _)) ⟨wr.heap.size, 0, none⟩ 1 1 [.int .i64 ((k : Int) % 3)] rfl rfl (news_one wr _ _) (one_one _) (by unfold maxLen; omega) (by omega) (by simp; omega) ?_)
            intro v' w9 hown1 hgrow _
            have HR9 := hidH hown1
            have HG9 := hidH hgrow
            clear hown1 hgrow
            go_wp2_with fail
            go_roundw
            case rel =>
              refine ⟨k + 1, v', gs ++ [(k : Int) % 3], by omega, by go_num, rfl, ⟨by rw [List.length_append, HGS.out.1]; rfl, fun g hg => ?_⟩, by rw [ints_append]; exact HR9.out, ?_⟩
              · rcases List.mem_append.1 hg with h | h
                · exact HGS.out.2 g h
                · obtain rfl := List.mem_singleton.1 h; exact HD.out
              · exact (HBq.out.alloc hszq _).grown HG9.out (by simp; omega) fun g hg => (HW.out.lt g hg).1
            case measure => simp [intOf]; omega
        · obtain rfl : k = zs.length := by omega
          have q6 := HLW.out gs ⟨HGS.out.1, HGS.out.2⟩
          have HRV := hidH (row_of_owns HW.out).1
          have HBB := hidH (bThen B6.out HBq.out)
          have HLZ := hidH (LZ_6.out.below HBq.out)
          have HG9 := hidH (G_6.out.below HBq.out)
          have HS1 := hidH (fun v1 W lo1 hi1 lo0 hi0 h0 h1 => HSS.out v1 gs W lo1 hi1 lo0 hi0 h0 h1)
          have HS2 := hidH (fun v1 W lo1 hi1 lo0 hi0 h0 h1 => HSS.out v1 (greedyA zs ((3 : Nat) : Int)) W lo1 hi1 lo0 hi0 h0 h1)
          generalize spanA zs gs ((3 : Nat) : Int) = sg at *
          generalize spanA zs (greedyA zs ((3 : Nat) : Int)) ((3 : Nat) : Int) = sgr at *
          by_cases hbl : 0 < bs.length
          · have hbe : ((bs.length : Int) == 0) = false := beq_eq_false_iff_ne.2 (by omega)
            obtain ⟨b0, hb0⟩ := get_lt bs 0 hbl
            obtain rfl := HFI.out b0 hb0
            have HB0 := hidH hb0
            clear hb0
            go_wp2_with fail
            refine (HLS.out wr _ _ HLZ.out).mono ?_; rintro e w11 ⟨rfl, hb⟩
            have BB11 := hidH (bThen HBB.out hb)
            have LZ11 := hidH (HLZ.out.below hb)
            have RV11 := hidH (HRV.out.below hb)
            have GG11 := hidH (HG9.out.below hb)
            clear hb
            go_wp2_with fail
            refine (HS1.out _ w11 _ _ _ _ LZ11.out RV11.out.lies).mono ?_; rintro e w12 ⟨rfl, hb⟩
            have BB12 := hidH (bThen BB11.out hb)
            have LZ12 := hidH (LZ11.out.below hb)
            have GG12 := hidH (GG11.out.below hb)
            clear hb
            go_wp2_with fail
            refine (HGR.out w12 _ _ LZ12.out).mono ?_; rintro e w13 ⟨vg, rfl, hr, hb⟩
            have BB13 := hidH (bThen BB12.out hb)
            have LZ13 := hidH (LZ12.out.below hb)
            have GG13 := hidH (GG12.out.below hb)
            have VG13 := hidH hr
            clear hb hr
            go_wp2_with fail
            refine (HS2.out vg w13 _ _ _ _ LZ13.out VG13.out.lies).mono ?_; rintro e w14 ⟨rfl, hb⟩
            have BB14 := hidH (bThen BB13.out hb)
            have GG14 := hidH (GG13.out.below hb)
            clear hb
            obtain ⟨_, _, e1, _, _, _, h14⟩ := GG14.out.lies
            injection e1 with e1 _ e3
            subst e1 e3
            obtain ⟨bb, oo, rfl, _, _, cbb⟩ := h14 0 0 HB0.out
            have cb0 : w14.cell? ⟨bb, oo, none⟩ = some (.int .i64 0) := cbb
            clear cbb
            go_wp2_with fail
            go_ret
            exact ⟨rfl, BB14.out⟩
          · have hbe : ((bs.length : Int) == 0) = true := beq_iff_eq.2 (by omega)
            go_wp2_with fail
            refine (HLS.out wr _ _ HLZ.out).mono ?_; rintro e w11 ⟨rfl, hb⟩
            have BB11 := hidH (bThen HBB.out hb)
            have LZ11 := hidH (HLZ.out.below hb)
            have RV11 := hidH (HRV.out.below hb)
            have GG11 := hidH (HG9.out.below hb)
            clear hb
            go_wp2_with fail
            refine (HS1.out _ w11 _ _ _ _ LZ11.out RV11.out.lies).mono ?_; rintro e w12 ⟨rfl, hb⟩
            have BB12 := hidH (bThen BB11.out hb)
            have LZ12 := hidH (LZ11.out.below hb)
            have GG12 := hidH (GG11.out.below hb)
            clear hb
            go_wp2_with fail
            refine (HGR.out w12 _ _ LZ12.out).mono ?_; rintro e w13 ⟨vg, rfl, hr, hb⟩
            have BB13 := hidH (bThen BB12.out hb)
            have LZ13 := hidH (LZ12.out.below hb)
            have GG13 := hidH (GG12.out.below hb)
            have VG13 := hidH hr
            clear hb hr
            go_wp2_with fail
            refine (HS2.out vg w13 _ _ _ _ LZ13.out VG13.out.lies).mono ?_; rintro e w14 ⟨rfl, hb⟩
            have BB14 := hidH (bThen BB13.out hb)
            have GG14 := hidH (GG13.out.below hb)
            clear hb
            go_wp2_with fail
            go_ret
            exact ⟨rfl, BB14.out⟩
end Go.Proofs.Ytcinhmfjnjecdaa
