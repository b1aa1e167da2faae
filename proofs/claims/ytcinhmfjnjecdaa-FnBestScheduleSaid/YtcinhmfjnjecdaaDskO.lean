/-
  The walk of the law of GreedySchedule. No conditions but that slices fit in memory.
-/
import Derived.Test.YtcinhmfjnjecdaaDskN
import Derived.Test.YtcinhmfjnjecdaaDskL
import Derived.Test.YtcinhmfjnjecdaaDeFns
namespace Go.Proofs.Ytcinhmfjnjecdaa
set_option maxRecDepth 4000
open Go.RowKit
theorem timesB_any (v : Value) (zs : List Int) (w : World) (lo hi : Nat) (hv : Lies w lo hi v zs) : Calls Try.prog 16 #[v] w (Gives (.bool (timesOk zs)) w) :=
  (timesV_any v zs w lo hi hv).mono fun e w' h => ⟨h.1, by rw [← h.2]; exact Below.refl _ _⟩
theorem engN (m : Nat) (h0 : 0 < m) (hm : m ≤ 3) : nEngOk (m : Int) = true := decide_eq_true (by omega)
/-- What holds of the schedule by the engine that is free first. -/
theorem greedy_law (T : List Int) (m : Nat) (hm0 : 0 < m) (hm : m ≤ 3) (hT : timesOk T = true) : (greedyA T (m : Int)).length = T.length ∧ leastA T (m : Int) ≤ spanA T (greedyA T (m : Int)) (m : Int) ∧ spanA T (greedyA T (m : Int)) (m : Int) * (m : Int) ≤ leastA T (m : Int) * (2 * (m : Int) - 1) ∧ 0 ≤ leastA T (m : Int) ∧ spanA T (greedyA T (m : Int)) (m : Int) ≤ 8000 := by
  have hT' := (timesOk_parts hT).2
  have hE := engN m hm0 hm
  have hS := isS_greedy T m T.length hm0 (Nat.le_refl _)
  rw [List.take_length] at hS
  have hg : greedyA T (m : Int) = greedyF T m T.length := by rw [greedyA_yes hT hE, Int.toNat_natCast]
  have hsp : spanA T (greedyF T m T.length) (m : Int) = mostL (loadsL T (greedyF T m T.length) m) := by
    rw [span_yes hT hE hS.1 (givOk_of (fun j g hj => by have := hS.2 g (List.mem_of_getElem? hj); omega)), Int.toNat_natCast]
  have hle : leastA T (m : Int) = mostL (loadsL T (bestP T m).2 m) := by unfold leastA; rw [hT, hE, Int.toNat_natCast]; rfl
  have hb := isS_best T m hm0 hm hT
  have h1 := best_min T m hm0 hm hT _ hS
  have h2 := greedy_span T m hm0 hm hT'
  have ⟨h3, _⟩ := most_sum T _ m hm0 hm hT' hb
  have h4 := most_time T _ m hT' hb
  rw [hg, hsp, hle]
  refine ⟨greedyF_length _ _ _, h1, ?_, mostL_ge _, (most_bd T _ m hT).2⟩
  rcases (show m = 1 ∨ m = 2 ∨ m = 3 by omega) with rfl | rfl | rfl <;> simp at * <;> omega
/-- What holds of the least span. -/
theorem least_law (T : List Int) (m : Nat) (hm0 : 0 < m) (hm : m ≤ 3) (hT : timesOk T = true) : mostL T ≤ leastA T (m : Int) ∧ sumT T ≤ leastA T (m : Int) * (m : Int) ∧ leastA T (m : Int) ≤ sumT T ∧ leastA T (m : Int) * (m : Int) ≤ sumT T + ((m : Int) - 1) * mostL T ∧ leastA T.reverse (m : Int) = leastA T (m : Int) ∧ 0 ≤ leastA T (m : Int) := by
  have hT' := (timesOk_parts hT).2
  have hE := engN m hm0 hm
  have hS := isS_greedy T m T.length hm0 (Nat.le_refl _)
  rw [List.take_length] at hS
  have hle : leastA T (m : Int) = mostL (loadsL T (bestP T m).2 m) := by unfold leastA; rw [hT, hE, Int.toNat_natCast]; rfl
  have hlr : leastA T.reverse (m : Int) = mostL (loadsL T.reverse (bestP T.reverse m).2 m) := by unfold leastA; rw [times_rev T hT, hE, Int.toNat_natCast]; rfl
  have hb := isS_best T m hm0 hm hT
  have h1 := best_min T m hm0 hm hT _ hS
  have h2 := greedy_span T m hm0 hm hT'
  have ⟨h3, h3'⟩ := most_sum T _ m hm0 hm hT' hb
  have h4 := most_time T _ m hT' hb
  rw [hlr, best_rev T m hm0 hm hT, hle]
  refine ⟨h4, h3, h3', ?_, rfl, mostL_ge _⟩
  rcases (show m = 1 ∨ m = 2 ∨ m = 3 by omega) with rfl | rfl | rfl <;> simp at * <;> omega
theorem least_law2 (T : List Int) (m : Nat) (hm0 : 0 < m) (hm : m + 1 ≤ 3) (hT : timesOk T = true) : leastA T ((m + 1 : Nat) : Int) ≤ leastA T (m : Int) ∧ leastA T (m : Int) ≤ sumT T := by
  have hle : ∀ k : Nat, 0 < k → k ≤ 3 → leastA T (k : Int) = mostL (loadsL T (bestP T k).2 k) := fun k h0 h1 => by unfold leastA; rw [hT, engN k h0 h1, Int.toNat_natCast]; rfl
  refine ⟨?_, (least_law T m hm0 (by omega) hT).2.2.1⟩
  rw [hle m hm0 (by omega), hle (m + 1) (by omega) hm]
  exact best_fewer T m hm0 hm hT
theorem sumT_bd (T : List Int) (h : timesOk T = true) : 0 ≤ sumT T ∧ sumT T ≤ 8000 := by
  have ⟨h1, h2⟩ := timesOk_parts h
  have key : ∀ L : List Int, (∀ (j : Nat) (x : Int), L[j]? = some x → 0 ≤ x ∧ x ≤ 1000) → 0 ≤ sumT L ∧ sumT L ≤ 1000 * (L.length : Int) := by
    intro L
    induction L with
    | nil => intro _; simp [sumT]
    | cons t L ih =>
      intro h
      have a := h 0 t rfl
      have b := ih (fun j x hj => h (j + 1) x hj)
      simp only [sumT, List.length_cons]; omega
  have := key T h2
  omega
theorem least_no {T : List Int} {n : Int} (h : (timesOk T && nEngOk n) = false) : leastA T n = -1 := by unfold leastA; rw [h]; rfl
set_option maxHeartbeats 3200000 in
theorem lawGreedySchedule (a : Option Addr) (len cap : Nat) (w : World) (hc : Came w a len cap) : Calls Try.prog 6 #[.slice a len cap] w (Gives (.bool true) w) := by
  have HC := hidH hc
  have hc1 := hc.lenLe
  have hc2 := hc.capLe
  unfold maxLen at hc2
  by_cases hbig : 1048576 < len
  · go_enter Try.func6, Try.ntmps6
    go_wp2
    go_ret
    exact ⟨rfl, Below.refl _ _⟩
  have hsm : len ≤ 1048576 := by omega
  clear hbig hc
  go_enter Try.func6, Try.ntmps6
  have B0 := hidH (Below.refl w.heap.size w)
  go_wp2_with fail
  refine (drawGreedy8 a len cap _ HC.out hsm).mono ?_; rintro e w1 ⟨v, zs, n, rfl, hz, hl9, hn0, hn1, hb⟩
  have B1 := hidH (bThen B0.out hb)
  have s1 := hb.size
  have LZ_1 := hidH hz
  clear hb B0  hz
  obtain ⟨za, zcap, rfl, zc1, zc2, _⟩ := LZ_1.out
  unfold maxLen at zc2
  go_wp2_with fail
  refine (greedyS_any _ zs n _ _ _ LZ_1.out).mono ?_; rintro e w2 ⟨g, rfl, hr, hb⟩
  have B2 := hidH (bThen B1.out hb)
  have s2 := hb.size
  have LZ_2 := hidH (LZ_1.out.below hb)
  have G_2 := hidH hr
  clear hb B1 LZ_1 hr
  go_wp2_with fail
  refine (sGreedyS_any _ zs n _ _ _ LZ_2.out).mono ?_; rintro e w3 ⟨g2, rfl, hr, hb⟩
  have B3 := hidH (bThen B2.out hb)
  have s3 := hb.size
  have LZ_3 := hidH (LZ_2.out.below hb)
  have G_3 := hidH (G_2.out.below hb)
  have U_3 := hidH hr
  clear hb B2 LZ_2 G_2 hr
  obtain ⟨ga, gcap, rfl, gc1, gc2, _⟩ := G_3.out.lies
  unfold maxLen at gc2
  go_wp2_with fail
  refine (deInts_yes _ _ _ _ _ _ _ _ G_3.out.lies U_3.out.lies).mono ?_; rintro e w4 ⟨rfl, hb⟩
  have B4 := hidH (bThen B3.out hb)
  have s4 := hb.size
  have LZ_4 := hidH (LZ_3.out.below hb)
  have G_4 := hidH (G_3.out.below hb)
  have U_4 := hidH (U_3.out.below hb)
  clear hb B3 LZ_3 G_3 U_3
  clear U_4
  cases ht : timesOk zs
  · have HT := hidH ht
    clear ht
    go_wp2_with fail
    refine (timesB_any _ zs _ _ _ LZ_4.out).mono ?_; rintro e w5 ⟨rfl, hb⟩
    rw [HT.out]
    have B5 := hidH (bThen B4.out hb)
    have s5 := hb.size
    have LZ_5 := hidH (LZ_4.out.below hb)
    have G_5 := hidH (G_4.out.below hb)
    clear hb B4 LZ_4 G_4
    go_wp2_with fail
    refine (sGreedyS_any _ zs n _ _ _ LZ_5.out).mono ?_; rintro e w6 ⟨g2, rfl, hr, hb⟩
    have B6 := hidH (bThen B5.out hb)
    have s6 := hb.size
    have LZ_6 := hidH (LZ_5.out.below hb)
    have G_6 := hidH (G_5.out.below hb)
    have U_6 := hidH hr
    clear hb B5 LZ_5 G_5 hr
    go_wp2_with fail
    refine (deInts_yes _ _ _ _ _ _ _ _ G_6.out.lies U_6.out.lies).mono ?_; rintro e w7 ⟨rfl, hb⟩
    have B7 := hidH (bThen B6.out hb)
    have s7 := hb.size
    have LZ_7 := hidH (LZ_6.out.below hb)
    have G_7 := hidH (G_6.out.below hb)
    have U_7 := hidH (U_6.out.below hb)
    clear hb B6 LZ_6 G_6 U_6
    go_wp2_with fail
    go_ret
    exact ⟨rfl, B7.out⟩
  · have HT := hidH ht
    clear ht
    go_wp2_with fail
    refine (timesB_any _ zs _ _ _ LZ_4.out).mono ?_; rintro e w5 ⟨rfl, hb⟩
    rw [HT.out]
    have B5 := hidH (bThen B4.out hb)
    have s5 := hb.size
    have LZ_5 := hidH (LZ_4.out.below hb)
    have G_5 := hidH (G_4.out.below hb)
    clear hb B4 LZ_4 G_4
    by_cases hlo : n < 1
    · skip
      go_wp2_with fail
      refine (sGreedyS_any _ zs n _ _ _ LZ_5.out).mono ?_; rintro e w6 ⟨g2, rfl, hr, hb⟩
      have B6 := hidH (bThen B5.out hb)
      have s6 := hb.size
      have LZ_6 := hidH (LZ_5.out.below hb)
      have G_6 := hidH (G_5.out.below hb)
      have U_6 := hidH hr
      clear hb B5 LZ_5 G_5 hr
      go_wp2_with fail
      refine (deInts_yes _ _ _ _ _ _ _ _ G_6.out.lies U_6.out.lies).mono ?_; rintro e w7 ⟨rfl, hb⟩
      have B7 := hidH (bThen B6.out hb)
      have s7 := hb.size
      have LZ_7 := hidH (LZ_6.out.below hb)
      have G_7 := hidH (G_6.out.below hb)
      have U_7 := hidH (U_6.out.below hb)
      clear hb B6 LZ_6 G_6 U_6
      go_wp2_with fail
      go_ret
      exact ⟨rfl, B7.out⟩
    by_cases hhi : 3 < n
    · skip
      go_wp2_with fail
      refine (sGreedyS_any _ zs n _ _ _ LZ_5.out).mono ?_; rintro e w6 ⟨g2, rfl, hr, hb⟩
      have B6 := hidH (bThen B5.out hb)
      have s6 := hb.size
      have LZ_6 := hidH (LZ_5.out.below hb)
      have G_6 := hidH (G_5.out.below hb)
      have U_6 := hidH hr
      clear hb B5 LZ_5 G_5 hr
      go_wp2_with fail
      refine (deInts_yes _ _ _ _ _ _ _ _ G_6.out.lies U_6.out.lies).mono ?_; rintro e w7 ⟨rfl, hb⟩
      have B7 := hidH (bThen B6.out hb)
      have s7 := hb.size
      have LZ_7 := hidH (LZ_6.out.below hb)
      have G_7 := hidH (G_6.out.below hb)
      have U_7 := hidH (U_6.out.below hb)
      clear hb B6 LZ_6 G_6 U_6
      go_wp2_with fail
      go_ret
      exact ⟨rfl, B7.out⟩
    rcases (show n = ((1 : Nat) : Int) ∨ n = ((2 : Nat) : Int) ∨ n = ((3 : Nat) : Int) by omega) with rfl | rfl | rfl
    · have ⟨q1, q2, q3, q4, q5⟩ := greedy_law zs 1 (by omega) (by omega) HT.out
      have HSS := hidH (fun v1 W lo1 hi1 lo0 hi0 (h0 : Lies W lo0 hi0 _ zs) h1 => spanOf_any (.slice za zs.length zcap) zs v1 (greedyA zs ((1 : Nat) : Int)) ((1 : Nat) : Int) W lo0 hi0 lo1 hi1 h0 h1)
      have HLS := hidH (fun W lo0 hi0 h0 => leastS_any (.slice za zs.length zcap) zs ((1 : Nat) : Int) W lo0 hi0 h0)
      generalize spanA zs (greedyA zs ((1 : Nat) : Int)) ((1 : Nat) : Int) = sp at *
      generalize leastA zs ((1 : Nat) : Int) = be at *
      generalize greedyA zs ((1 : Nat) : Int) = gs at *
      have hbe : ((gs.length : Int) == (zs.length : Int)) = true := by rw [q1]; exact beq_self_eq_true _
      clear q1
      have q3b : sp * 1 ≤ be * 1 := by simpa using q3
      clear q3
      obtain rfl : sp = be := by omega
      go_wp2_with fail
      refine (HSS.out _ _ _ _ _ _ LZ_5.out G_5.out.lies).mono ?_; rintro e w6 ⟨rfl, hb⟩
      have B6 := hidH (bThen B5.out hb)
      have s6 := hb.size
      have LZ_6 := hidH (LZ_5.out.below hb)
      have G_6 := hidH (G_5.out.below hb)
      clear hb B5 LZ_5 G_5
      go_wp2_with fail
      refine (HLS.out _ _ _ LZ_6.out).mono ?_; rintro e w7 ⟨rfl, hb⟩
      have B7 := hidH (bThen B6.out hb)
      have s7 := hb.size
      have LZ_7 := hidH (LZ_6.out.below hb)
      have G_7 := hidH (G_6.out.below hb)
      clear hb B6 LZ_6 G_6
      go_wp2_with fail
      go_ret
      exact ⟨rfl, B7.out⟩
    · have ⟨q1, q2, q3, q4, q5⟩ := greedy_law zs 2 (by omega) (by omega) HT.out
      have HSS := hidH (fun v1 W lo1 hi1 lo0 hi0 (h0 : Lies W lo0 hi0 _ zs) h1 => spanOf_any (.slice za zs.length zcap) zs v1 (greedyA zs ((2 : Nat) : Int)) ((2 : Nat) : Int) W lo0 hi0 lo1 hi1 h0 h1)
      have HLS := hidH (fun W lo0 hi0 h0 => leastS_any (.slice za zs.length zcap) zs ((2 : Nat) : Int) W lo0 hi0 h0)
      generalize spanA zs (greedyA zs ((2 : Nat) : Int)) ((2 : Nat) : Int) = sp at *
      generalize leastA zs ((2 : Nat) : Int) = be at *
      generalize greedyA zs ((2 : Nat) : Int) = gs at *
      have hbe : ((gs.length : Int) == (zs.length : Int)) = true := by rw [q1]; exact beq_self_eq_true _
      clear q1
      have q3b : sp * 2 ≤ be * 3 := by simpa using q3
      clear q3
      go_wp2_with fail
      refine (HSS.out _ _ _ _ _ _ LZ_5.out G_5.out.lies).mono ?_; rintro e w6 ⟨rfl, hb⟩
      have B6 := hidH (bThen B5.out hb)
      have s6 := hb.size
      have LZ_6 := hidH (LZ_5.out.below hb)
      have G_6 := hidH (G_5.out.below hb)
      clear hb B5 LZ_5 G_5
      go_wp2_with fail
      refine (HLS.out _ _ _ LZ_6.out).mono ?_; rintro e w7 ⟨rfl, hb⟩
      have B7 := hidH (bThen B6.out hb)
      have s7 := hb.size
      have LZ_7 := hidH (LZ_6.out.below hb)
      have G_7 := hidH (G_6.out.below hb)
      clear hb B6 LZ_6 G_6
      go_wp2_with fail
      go_ret
      exact ⟨rfl, B7.out⟩
    · have ⟨q1, q2, q3, q4, q5⟩ := greedy_law zs 3 (by omega) (by omega) HT.out
      have HSS := hidH (fun v1 W lo1 hi1 lo0 hi0 (h0 : Lies W lo0 hi0 _ zs) h1 => spanOf_any (.slice za zs.length zcap) zs v1 (greedyA zs ((3 : Nat) : Int)) ((3 : Nat) : Int) W lo0 hi0 lo1 hi1 h0 h1)
      have HLS := hidH (fun W lo0 hi0 h0 => leastS_any (.slice za zs.length zcap) zs ((3 : Nat) : Int) W lo0 hi0 h0)
      generalize spanA zs (greedyA zs ((3 : Nat) : Int)) ((3 : Nat) : Int) = sp at *
      generalize leastA zs ((3 : Nat) : Int) = be at *
      generalize greedyA zs ((3 : Nat) : Int) = gs at *
      have hbe : ((gs.length : Int) == (zs.length : Int)) = true := by rw [q1]; exact beq_self_eq_true _
      clear q1
      have q3b : sp * 3 ≤ be * 5 := by simpa using q3
      clear q3
      go_wp2_with fail
      refine (HSS.out _ _ _ _ _ _ LZ_5.out G_5.out.lies).mono ?_; rintro e w6 ⟨rfl, hb⟩
      have B6 := hidH (bThen B5.out hb)
      have s6 := hb.size
      have LZ_6 := hidH (LZ_5.out.below hb)
      have G_6 := hidH (G_5.out.below hb)
      clear hb B5 LZ_5 G_5
      go_wp2_with fail
      refine (HLS.out _ _ _ LZ_6.out).mono ?_; rintro e w7 ⟨rfl, hb⟩
      have B7 := hidH (bThen B6.out hb)
      have s7 := hb.size
      have LZ_7 := hidH (LZ_6.out.below hb)
      have G_7 := hidH (G_6.out.below hb)
      clear hb B6 LZ_6 G_6
      go_wp2_with fail
      go_ret
      exact ⟨rfl, B7.out⟩
end Go.Proofs.Ytcinhmfjnjecdaa
