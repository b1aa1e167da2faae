/-
  The walk of the law of SpanOf. No conditions but that slices fit in memory.
-/
import Derived.Test.YtcinhmfjnjecdaaDskO
import Derived.Test.YtcinhmfjnjecdaaDskQ
namespace Go.Proofs.Ytcinhmfjnjecdaa
set_option maxRecDepth 4000
open Go.RowKit
/-- The loads of the first k engines together, and whether one of them is s. -/
def psumE (T G : List Int) : Nat → Int
  | 0 => 0
  | k + 1 => psumE T G k + loadE T G (k : Int)
def psomE (T G : List Int) (s : Int) : Nat → Bool
  | 0 => s == 0
  | k + 1 => psomE T G s k || (loadE T G (k : Int) == s)
theorem foldmax_att (l : List Int) (a : Int) : l.foldl max a = a ∨ l.foldl max a ∈ l := by
  induction l generalizing a with
  | nil => exact Or.inl rfl
  | cons x l ih =>
    rw [List.foldl_cons]
    rcases ih (max a x) with h | h
    · rw [h]
      rcases (show max a x = a ∨ max a x = x by omega) with e | e
      · exact Or.inl e
      · exact Or.inr (by rw [e]; exact List.mem_cons_self)
    · exact Or.inr (List.mem_cons_of_mem _ h)
theorem psomE_of (T G : List Int) (s : Int) (m k : Nat) (h : loadE T G (k : Int) = s) (hk : k < m) : psomE T G s m = true := by
  induction m with
  | zero => omega
  | succ m ih =>
    rw [psomE]
    by_cases e : k = m
    · subst e; rw [h, beq_self_eq_true, Bool.or_true]
    · rw [ih (by omega), Bool.true_or]
theorem psomE_zero (T G : List Int) (m : Nat) : psomE T G 0 m = true := by
  induction m with
  | zero => rfl
  | succ m ih => rw [psomE, ih, Bool.true_or]
/-- What holds of the span of a schedule. -/
theorem span_law (T G : List Int) (m : Nat) (hm0 : 0 < m) (hm : m ≤ 3) (hT : timesOk T = true) (hG : IsS T G m) : psomE T G (mostL (loadsL T G m)) m = true ∧ psumE T G m ≤ mostL (loadsL T G m) * (m : Int) ∧ leastA T (m : Int) ≤ mostL (loadsL T G m) ∧ (∀ k : Nat, k < m → loadE T G (k : Int) ≤ mostL (loadsL T G m)) ∧ 0 ≤ leastA T (m : Int) := by
  have hT' := (timesOk_parts hT).2
  have hle : leastA T (m : Int) = mostL (loadsL T (bestP T m).2 m) := by unfold leastA; rw [hT, engN m hm0 hm, Int.toNat_natCast]; rfl
  refine ⟨?_, ?_, by rw [hle]; exact best_min T m hm0 hm hT G hG, fun k hk => mostL_load T G m k hk, by rw [hle]; exact mostL_ge _⟩
  · rcases foldmax_att (loadsL T G m) 0 with h | h
    · have h : mostL (loadsL T G m) = 0 := h
      rw [h]; exact psomE_zero T G m
    · obtain ⟨j, hj⟩ := List.getElem?_of_mem h
      have hjn : j < m := by have := (List.getElem?_eq_some_iff.1 hj).1; rwa [loadsL_length] at this
      rw [loadsL_get _ _ _ _ hjn] at hj
      injection hj with hj
      exact psomE_of T G _ m j hj hjn
  · have ⟨h1, _⟩ := most_sum T G m hm0 hm hT' hG
    have e : psumE T G m = sumT T := by
      rcases (show m = 1 ∨ m = 2 ∨ m = 3 by omega) with rfl | rfl | rfl
      · have s := load_sum1 T G hG.1 hG.2
        simp [psumE]; omega
      · have s := load_sum2 T G hG.1 hG.2
        simp [psumE]; omega
      · have s := load_sum3 T G hG.1 hG.2
        simp [psumE]; omega
    rw [e]; exact h1
theorem psumE_bd (T G : List Int) (hT : timesOk T = true) (k : Nat) (hk : k ≤ 3) : 0 ≤ psumE T G k ∧ psumE T G k ≤ 24000 := by
  have b : ∀ e : Int, 0 ≤ loadE T G e ∧ loadE T G e ≤ 8000 := fun e => by
    have := load_bd (G := G) e T.length hT
    rwa [List.take_length] at this
  have key : ∀ k : Nat, 0 ≤ psumE T G k ∧ psumE T G k ≤ 8000 * (k : Int) := by
    intro k
    induction k with
    | zero => simp [psumE]
    | succ k ih => have := b (k : Int); rw [psumE]; omega
  have := key k
  omega
theorem span_parts {T G : List Int} {n : Int} (h : (timesOk T && nEngOk n && decide (G.length = T.length) && givOk G n) = true) : timesOk T = true ∧ 1 ≤ n ∧ n ≤ 3 ∧ G.length = T.length ∧ givOk G n = true := by
  simp only [Bool.and_eq_true, decide_eq_true_eq] at h
  obtain ⟨⟨⟨h1, h2⟩, h3⟩, h4⟩ := h
  have ⟨a, b⟩ := of_decide_eq_true h2
  exact ⟨h1, a, b, h3, h4⟩
set_option maxHeartbeats 6400000 in
theorem lawSpan (a : Option Addr) (len cap : Nat) (w : World) (hc : Came w a len cap) : Calls Try.prog 3 #[.slice a len cap] w (Gives (.bool true) w) := by
  have HC := hidH hc
  have hc1 := hc.lenLe
  have hc2 := hc.capLe
  unfold maxLen at hc2
  by_cases hbig : 1048576 < len
  · go_enter Try.func3, Try.ntmps3
    go_wp2
    go_ret
    exact ⟨rfl, Below.refl _ _⟩
  have hsm : len ≤ 1048576 := by omega
  clear hbig hc
  go_enter Try.func3, Try.ntmps3
  have B0 := hidH (Below.refl w.heap.size w)
  go_wp2_with fail
  refine (drawSpan8 a len cap _ HC.out hsm).mono ?_; rintro e w1 ⟨v, zs, u, gs, n, rfl, hz, hy, hl9, hl10, hn0, hn1, hb⟩
  have B1 := hidH (bThen B0.out hb)
  have s1 := hb.size
  have LZ_1 := hidH hz
  have LY_1 := hidH hy
  clear hb B0  hz hy
  obtain ⟨za, zcap, rfl, zc1, zc2, _⟩ := LZ_1.out
  unfold maxLen at zc2
  obtain ⟨ya, ycap, rfl, yc1, yc2, _⟩ := LY_1.out
  unfold maxLen at yc2
  cases ht : timesOk zs && nEngOk n && decide (gs.length = zs.length) && givOk gs n
  · have HT := hidH (show spanA zs gs n = -1 by unfold spanA; rw [ht]; rfl)
    clear ht
    go_wp2_with fail
    refine (spanOf_any _ zs _ gs n _ _ _ _ _ LZ_1.out LY_1.out).mono ?_; rintro e w2 ⟨rfl, hb⟩
    rw [HT.out]
    have B2 := hidH (bThen B1.out hb)
    have s2 := hb.size
    have LZ_2 := hidH (LZ_1.out.below hb)
    have LY_2 := hidH (LY_1.out.below hb)
    clear hb B1 LZ_1 LY_1
    go_wp2_with fail
    refine (sSpanOf_any _ zs _ gs n _ _ _ _ _ LZ_2.out LY_2.out).mono ?_; rintro e w3 ⟨rfl, hb⟩
    rw [HT.out]
    have B3 := hidH (bThen B2.out hb)
    have s3 := hb.size
    have LZ_3 := hidH (LZ_2.out.below hb)
    have LY_3 := hidH (LY_2.out.below hb)
    clear hb B2 LZ_2 LY_2
    go_wp2_with fail
    refine (sSpanOf_any _ zs _ gs n _ _ _ _ _ LZ_3.out LY_3.out).mono ?_; rintro e w4 ⟨rfl, hb⟩
    rw [HT.out]
    have B4 := hidH (bThen B3.out hb)
    have s4 := hb.size
    have LZ_4 := hidH (LZ_3.out.below hb)
    have LY_4 := hidH (LY_3.out.below hb)
    clear hb B3 LZ_3 LY_3
    go_wp2_with fail
    go_ret
    exact ⟨rfl, B4.out⟩
  · obtain ⟨h1, n1, n2, h3, h4⟩ := span_parts ht
    have HT := hidH h1
    have HSP := hidH (show spanA zs gs n = mostL (loadsL zs gs n.toNat) by unfold spanA; rw [ht]; rfl)
    have HIS := hidH (show IsS zs gs n.toNat from ⟨h3, fun g hg => by obtain ⟨j, hj⟩ := List.getElem?_of_mem hg; have := givOk_at h4 j g hj; omega⟩)
    have HL3 := hidH h3
    have hl8 := (timesOk_parts h1).1
    have HTB := hidH (timesOk_parts h1).2
    have HTK := hidH (fun k e => load_bd (T := zs) (G := gs.take k) e k h1)
    clear ht h1 h3 h4
    rcases (show n = ((1 : Nat) : Int) ∨ n = ((2 : Nat) : Int) ∨ n = ((3 : Nat) : Int) by omega) with rfl | rfl | rfl
    · rw [Int.toNat_natCast] at HSP HIS
      have ⟨q1, q2, q3, q4, q5⟩ := span_law zs gs 1 (by omega) (by omega) HT.out HIS.out
      have HLS := hidH (fun W lo0 hi0 h0 => leastS_any (.slice za zs.length zcap) zs ((1 : Nat) : Int) W lo0 hi0 h0)
      have HSS := hidH (fun W lo0 hi0 lo1 hi1 h0 h1 => spanOf_any (.slice za zs.length zcap) zs (.slice ya gs.length ycap) gs ((1 : Nat) : Int) W lo0 hi0 lo1 hi1 h0 h1)
      have HTS := hidH (fun W lo0 hi0 lo1 hi1 h0 h1 => sSpanOf_any (.slice za zs.length zcap) zs (.slice ya gs.length ycap) gs ((1 : Nat) : Int) W lo0 hi0 lo1 hi1 h0 h1)
      have ⟨sp0, sp1⟩ := most_bd zs gs 1 HT.out
      rw [HSP.out] at HSS HTS
      clear HSP
      generalize mostL (loadsL zs gs 1) = sp at *
      generalize leastA zs ((1 : Nat) : Int) = be at *
      have HQ1 := hidH q1
      have HQ4 := hidH q4
      have q2b : psumE zs gs 1 ≤ sp * 1 := by simpa using q2
      clear q1 q2 q4
      go_wp2_with fail
      refine (HSS.out _ _ _ _ _ LZ_1.out LY_1.out).mono ?_; rintro e w2 ⟨rfl, hb⟩
      have B2 := hidH (bThen B1.out hb)
      have s2 := hb.size
      have LZ_2 := hidH (LZ_1.out.below hb)
      have LY_2 := hidH (LY_1.out.below hb)
      clear hb B1 LZ_1 LY_1
      go_wp2_with fail
      refine (HTS.out _ _ _ _ _ LZ_2.out LY_2.out).mono ?_; rintro e w3 ⟨rfl, hb⟩
      have B3 := hidH (bThen B2.out hb)
      have s3 := hb.size
      have LZ_3 := hidH (LZ_2.out.below hb)
      have LY_3 := hidH (LY_2.out.below hb)
      clear hb B2 LZ_2 LY_2
      obtain ⟨_, _, e1, _, _, _, hzc⟩ := LZ_3.out
      injection e1 with e1 _ e3
      subst e1 e3
      obtain ⟨_, _, e1, _, _, _, hyc⟩ := LY_3.out
      injection e1 with e1 _ e3
      subst e1 e3
      have HZC := hidH hzc
      have HYC := hidH hyc
      clear hzc hyc
      go_wp2_with fail
      go_loop [7, 8, 9] (fun su so i => ∃ k : Nat, k ≤ 1 ∧ i = .int .i64 k ∧ su = .int .i64 (psumE zs gs k) ∧ so = .bool (psomE zs gs sp k)) (fun _ _ i => 1 - (intOf i).toNat)
      case atStart => exact ⟨0, Nat.zero_le _, rfl, rfl, rfl⟩
      case round =>
        obtain ⟨k, hk, rfl, rfl, rfl⟩ := hrel
        by_cases hlt : k < 1
        · have hq4 := HQ4.out k hlt
          have ⟨ps0, ps1⟩ := psumE_bd zs gs HT.out k (by omega)
          have HPS := hidH (show psumE zs gs (k + 1) = psumE zs gs k + loadE zs gs (k : Int) from rfl)
          have HPB := hidH (show psomE zs gs sp (k + 1) = (psomE zs gs sp k || (loadE zs gs (k : Int) == sp)) from rfl)
          have hld := HTK.out zs.length (k : Int)
          rw [List.take_length, show gs.take zs.length = gs from List.take_of_length_le (by have := HL3.out; omega)] at hld
          obtain ⟨ld0, ld1⟩ := hld
          have HLD := hidH (show loadE (zs.take zs.length) (gs.take zs.length) (k : Int) = loadE zs gs (k : Int) by rw [List.take_length, show gs.take zs.length = gs from List.take_of_length_le (by have := HL3.out; omega)])
          generalize psumE zs gs k = ps at *
          generalize psomE zs gs sp k = pb at *
          go_wp2_with fail
          go_loop [10, 11] (fun ld i => ∃ j : Nat, j ≤ zs.length ∧ i = .int .i64 j ∧ ld = .int .i64 (loadE (zs.take j) (gs.take j) (k : Int))) (fun _ i => zs.length - (intOf i).toNat)
          case atStart => exact ⟨0, Nat.zero_le _, rfl, rfl⟩
          case round =>
            obtain ⟨j, hj, rfl, rfl⟩ := hrel
            by_cases hjl : j < zs.length
            · obtain ⟨t, ht⟩ := get_lt zs j hjl
              obtain ⟨g, hg⟩ := get_lt gs j (by have := HL3.out; omega)
              obtain ⟨b0, o0, rfl, _, _, cz⟩ := HZC.out j t ht
              obtain ⟨b1, o1, rfl, _, _, cy⟩ := HYC.out j g hg
              have hjg : j < gs.length := (List.getElem?_eq_some_iff.1 hg).1
              have ⟨t0, t1⟩ := HTB.out j t ht
              have HNX := hidH (loadE_next zs gs j t g (k : Int) ht hg)
              have ⟨x0, x1⟩ := HTK.out j (k : Int)
              generalize loadE (zs.take j) (gs.take j) (k : Int) = x at *
              clear ht hg
              by_cases hgk : g = (k : Int)
              · have b9 : (g == (k : Int)) = true := beq_iff_eq.2 hgk
                have HN := hidH (show loadE (zs.take (j + 1)) (gs.take (j + 1)) (k : Int) = x + t by rw [HNX.out, if_pos hgk])
                clear hgk HNX
                go_wp2_with fail
                go_round
                case rel => exact ⟨j + 1, by omega, by go_num, by rw [HN.out]⟩
                case measure => simp [intOf]; omega
              · have b9 : (g == (k : Int)) = false := beq_eq_false_iff_ne.2 hgk
                have HN := hidH (show loadE (zs.take (j + 1)) (gs.take (j + 1)) (k : Int) = x by rw [HNX.out, if_neg hgk, Int.add_zero])
                clear hgk HNX
                go_wp2_with fail
                go_round
                case rel => exact ⟨j + 1, by omega, by go_num, by rw [HN.out]⟩
                case measure => simp [intOf]; omega
            · obtain rfl : j = zs.length := by omega
              rw [HLD.out]
              clear HLD
              generalize loadE zs gs (k : Int) = ld at *
              have hnl : ¬ sp < ld := by omega
              cases pb
              · by_cases hls : ld = sp
                · have b9 : (ld == sp) = true := beq_iff_eq.2 hls
                  have HN := hidH (show psomE zs gs sp (k + 1) = true by rw [HPB.out, b9]; rfl)
                  clear hls
                  go_wp2_with fail
                  go_round
                  case rel => exact ⟨k + 1, by omega, by go_num, by rw [HPS.out], by rw [HN.out]⟩
                  case measure => simp [intOf]; omega
                · have b9 : (ld == sp) = false := beq_eq_false_iff_ne.2 hls
                  have HN := hidH (show psomE zs gs sp (k + 1) = false by rw [HPB.out, b9]; rfl)
                  clear hls
                  go_wp2_with fail
                  go_round
                  case rel => exact ⟨k + 1, by omega, by go_num, by rw [HPS.out], by rw [HN.out]⟩
                  case measure => simp [intOf]; omega
              · have HN := hidH (show psomE zs gs sp (k + 1) = true by rw [HPB.out]; rfl)
                go_wp2_with fail
                go_round
                case rel => exact ⟨k + 1, by omega, by go_num, by rw [HPS.out], by rw [HN.out]⟩
                case measure => simp [intOf]; omega
        · obtain rfl : k = 1 := by omega
          rw [HQ1.out]
          have ⟨ps0, ps1⟩ := psumE_bd zs gs HT.out 1 (by omega)
          generalize psumE zs gs 1 = ps at *
          go_wp2_with fail
          refine (HLS.out _ _ _ LZ_3.out).mono ?_; rintro e w9 ⟨rfl, hb⟩
          have B9 := hidH (bThen B3.out hb)
          clear hb
          go_wp2_with fail
          go_ret
          exact ⟨rfl, B9.out⟩
    · rw [Int.toNat_natCast] at HSP HIS
      have ⟨q1, q2, q3, q4, q5⟩ := span_law zs gs 2 (by omega) (by omega) HT.out HIS.out
      have HLS := hidH (fun W lo0 hi0 h0 => leastS_any (.slice za zs.length zcap) zs ((2 : Nat) : Int) W lo0 hi0 h0)
      have HSS := hidH (fun W lo0 hi0 lo1 hi1 h0 h1 => spanOf_any (.slice za zs.length zcap) zs (.slice ya gs.length ycap) gs ((2 : Nat) : Int) W lo0 hi0 lo1 hi1 h0 h1)
      have HTS := hidH (fun W lo0 hi0 lo1 hi1 h0 h1 => sSpanOf_any (.slice za zs.length zcap) zs (.slice ya gs.length ycap) gs ((2 : Nat) : Int) W lo0 hi0 lo1 hi1 h0 h1)
      have ⟨sp0, sp1⟩ := most_bd zs gs 2 HT.out
      rw [HSP.out] at HSS HTS
      clear HSP
      generalize mostL (loadsL zs gs 2) = sp at *
      generalize leastA zs ((2 : Nat) : Int) = be at *
      have HQ1 := hidH q1
      have HQ4 := hidH q4
      have q2b : psumE zs gs 2 ≤ sp * 2 := by simpa using q2
      clear q1 q2 q4
      go_wp2_with fail
      refine (HSS.out _ _ _ _ _ LZ_1.out LY_1.out).mono ?_; rintro e w2 ⟨rfl, hb⟩
      have B2 := hidH (bThen B1.out hb)
      have s2 := hb.size
      have LZ_2 := hidH (LZ_1.out.below hb)
      have LY_2 := hidH (LY_1.out.below hb)
      clear hb B1 LZ_1 LY_1
      go_wp2_with fail
      refine (HTS.out _ _ _ _ _ LZ_2.out LY_2.out).mono ?_; rintro e w3 ⟨rfl, hb⟩
      have B3 := hidH (bThen B2.out hb)
      have s3 := hb.size
      have LZ_3 := hidH (LZ_2.out.below hb)
      have LY_3 := hidH (LY_2.out.below hb)
      clear hb B2 LZ_2 LY_2
      obtain ⟨_, _, e1, _, _, _, hzc⟩ := LZ_3.out
      injection e1 with e1 _ e3
      subst e1 e3
      obtain ⟨_, _, e1, _, _, _, hyc⟩ := LY_3.out
      injection e1 with e1 _ e3
      subst e1 e3
      have HZC := hidH hzc
      have HYC := hidH hyc
      clear hzc hyc
      go_wp2_with fail
      go_loop [7, 8, 9] (fun su so i => ∃ k : Nat, k ≤ 2 ∧ i = .int .i64 k ∧ su = .int .i64 (psumE zs gs k) ∧ so = .bool (psomE zs gs sp k)) (fun _ _ i => 2 - (intOf i).toNat)
      case atStart => exact ⟨0, Nat.zero_le _, rfl, rfl, rfl⟩
      case round =>
        obtain ⟨k, hk, rfl, rfl, rfl⟩ := hrel
        by_cases hlt : k < 2
        · have hq4 := HQ4.out k hlt
          have ⟨ps0, ps1⟩ := psumE_bd zs gs HT.out k (by omega)
          have HPS := hidH (show psumE zs gs (k + 1) = psumE zs gs k + loadE zs gs (k : Int) from rfl)
          have HPB := hidH (show psomE zs gs sp (k + 1) = (psomE zs gs sp k || (loadE zs gs (k : Int) == sp)) from rfl)
          have hld := HTK.out zs.length (k : Int)
          rw [List.take_length, show gs.take zs.length = gs from List.take_of_length_le (by have := HL3.out; omega)] at hld
          obtain ⟨ld0, ld1⟩ := hld
          have HLD := hidH (show loadE (zs.take zs.length) (gs.take zs.length) (k : Int) = loadE zs gs (k : Int) by rw [List.take_length, show gs.take zs.length = gs from List.take_of_length_le (by have := HL3.out; omega)])
          generalize psumE zs gs k = ps at *
          generalize psomE zs gs sp k = pb at *
          go_wp2_with fail
          go_loop [10, 11] (fun ld i => ∃ j : Nat, j ≤ zs.length ∧ i = .int .i64 j ∧ ld = .int .i64 (loadE (zs.take j) (gs.take j) (k : Int))) (fun _ i => zs.length - (intOf i).toNat)
          case atStart => exact ⟨0, Nat.zero_le _, rfl, rfl⟩
          case round =>
            obtain ⟨j, hj, rfl, rfl⟩ := hrel
            by_cases hjl : j < zs.length
            · obtain ⟨t, ht⟩ := get_lt zs j hjl
              obtain ⟨g, hg⟩ := get_lt gs j (by have := HL3.out; omega)
              obtain ⟨b0, o0, rfl, _, _, cz⟩ := HZC.out j t ht
              obtain ⟨b1, o1, rfl, _, _, cy⟩ := HYC.out j g hg
              have hjg : j < gs.length := (List.getElem?_eq_some_iff.1 hg).1
              have ⟨t0, t1⟩ := HTB.out j t ht
              have HNX := hidH (loadE_next zs gs j t g (k : Int) ht hg)
              have ⟨x0, x1⟩ := HTK.out j (k : Int)
              generalize loadE (zs.take j) (gs.take j) (k : Int) = x at *
              clear ht hg
              by_cases hgk : g = (k : Int)
              · have b9 : (g == (k : Int)) = true := beq_iff_eq.2 hgk
                have HN := hidH (show loadE (zs.take (j + 1)) (gs.take (j + 1)) (k : Int) = x + t by rw [HNX.out, if_pos hgk])
                clear hgk HNX
                go_wp2_with fail
                go_round
                case rel => exact ⟨j + 1, by omega, by go_num, by rw [HN.out]⟩
                case measure => simp [intOf]; omega
              · have b9 : (g == (k : Int)) = false := beq_eq_false_iff_ne.2 hgk
                have HN := hidH (show loadE (zs.take (j + 1)) (gs.take (j + 1)) (k : Int) = x by rw [HNX.out, if_neg hgk, Int.add_zero])
                clear hgk HNX
                go_wp2_with fail
                go_round
                case rel => exact ⟨j + 1, by omega, by go_num, by rw [HN.out]⟩
                case measure => simp [intOf]; omega
            · obtain rfl : j = zs.length := by omega
              rw [HLD.out]
              clear HLD
              generalize loadE zs gs (k : Int) = ld at *
              have hnl : ¬ sp < ld := by omega
              cases pb
              · by_cases hls : ld = sp
                · have b9 : (ld == sp) = true := beq_iff_eq.2 hls
                  have HN := hidH (show psomE zs gs sp (k + 1) = true by rw [HPB.out, b9]; rfl)
                  clear hls
                  go_wp2_with fail
                  go_round
                  case rel => exact ⟨k + 1, by omega, by go_num, by rw [HPS.out], by rw [HN.out]⟩
                  case measure => simp [intOf]; omega
                · have b9 : (ld == sp) = false := beq_eq_false_iff_ne.2 hls
                  have HN := hidH (show psomE zs gs sp (k + 1) = false by rw [HPB.out, b9]; rfl)
                  clear hls
                  go_wp2_with fail
                  go_round
                  case rel => exact ⟨k + 1, by omega, by go_num, by rw [HPS.out], by rw [HN.out]⟩
                  case measure => simp [intOf]; omega
              · have HN := hidH (show psomE zs gs sp (k + 1) = true by rw [HPB.out]; rfl)
                go_wp2_with fail
                go_round
                case rel => exact ⟨k + 1, by omega, by go_num, by rw [HPS.out], by rw [HN.out]⟩
                case measure => simp [intOf]; omega
        · obtain rfl : k = 2 := by omega
          rw [HQ1.out]
          have ⟨ps0, ps1⟩ := psumE_bd zs gs HT.out 2 (by omega)
          generalize psumE zs gs 2 = ps at *
          go_wp2_with fail
          refine (HLS.out _ _ _ LZ_3.out).mono ?_; rintro e w9 ⟨rfl, hb⟩
          have B9 := hidH (bThen B3.out hb)
          clear hb
          go_wp2_with fail
          go_ret
          exact ⟨rfl, B9.out⟩
    · rw [Int.toNat_natCast] at HSP HIS
      have ⟨q1, q2, q3, q4, q5⟩ := span_law zs gs 3 (by omega) (by omega) HT.out HIS.out
      have HLS := hidH (fun W lo0 hi0 h0 => leastS_any (.slice za zs.length zcap) zs ((3 : Nat) : Int) W lo0 hi0 h0)
      have HSS := hidH (fun W lo0 hi0 lo1 hi1 h0 h1 => spanOf_any (.slice za zs.length zcap) zs (.slice ya gs.length ycap) gs ((3 : Nat) : Int) W lo0 hi0 lo1 hi1 h0 h1)
      have HTS := hidH (fun W lo0 hi0 lo1 hi1 h0 h1 => sSpanOf_any (.slice za zs.length zcap) zs (.slice ya gs.length ycap) gs ((3 : Nat) : Int) W lo0 hi0 lo1 hi1 h0 h1)
      have ⟨sp0, sp1⟩ := most_bd zs gs 3 HT.out
      rw [HSP.out] at HSS HTS
      clear HSP
      generalize mostL (loadsL zs gs 3) = sp at *
      generalize leastA zs ((3 : Nat) : Int) = be at *
      have HQ1 := hidH q1
      have HQ4 := hidH q4
      have q2b : psumE zs gs 3 ≤ sp * 3 := by simpa using q2
      clear q1 q2 q4
      go_wp2_with fail
      refine (HSS.out _ _ _ _ _ LZ_1.out LY_1.out).mono ?_; rintro e w2 ⟨rfl, hb⟩
      have B2 := hidH (bThen B1.out hb)
      have s2 := hb.size
      have LZ_2 := hidH (LZ_1.out.below hb)
      have LY_2 := hidH (LY_1.out.below hb)
      clear hb B1 LZ_1 LY_1
      go_wp2_with fail
      refine (HTS.out _ _ _ _ _ LZ_2.out LY_2.out).mono ?_; rintro e w3 ⟨rfl, hb⟩
      have B3 := hidH (bThen B2.out hb)
      have s3 := hb.size
      have LZ_3 := hidH (LZ_2.out.below hb)
      have LY_3 := hidH (LY_2.out.below hb)
      clear hb B2 LZ_2 LY_2
      obtain ⟨_, _, e1, _, _, _, hzc⟩ := LZ_3.out
      injection e1 with e1 _ e3
      subst e1 e3
      obtain ⟨_, _, e1, _, _, _, hyc⟩ := LY_3.out
      injection e1 with e1 _ e3
      subst e1 e3
      have HZC := hidH hzc
      have HYC := hidH hyc
      clear hzc hyc
      go_wp2_with fail
      go_loop [7, 8, 9] (fun su so i => ∃ k : Nat, k ≤ 3 ∧ i = .int .i64 k ∧ su = .int .i64 (psumE zs gs k) ∧ so = .bool (psomE zs gs sp k)) (fun _ _ i => 3 - (intOf i).toNat)
      case atStart => exact ⟨0, Nat.zero_le _, rfl, rfl, rfl⟩
      case round =>
        obtain ⟨k, hk, rfl, rfl, rfl⟩ := hrel
        by_cases hlt : k < 3
        · have hq4 := HQ4.out k hlt
          have ⟨ps0, ps1⟩ := psumE_bd zs gs HT.out k (by omega)
          have HPS := hidH (show psumE zs gs (k + 1) = psumE zs gs k + loadE zs gs (k : Int) from rfl)
          have HPB := hidH (show psomE zs gs sp (k + 1) = (psomE zs gs sp k || (loadE zs gs (k : Int) == sp)) from rfl)
          have hld := HTK.out zs.length (k : Int)
          rw [List.take_length, show gs.take zs.length = gs from List.take_of_length_le (by have := HL3.out; omega)] at hld
          obtain ⟨ld0, ld1⟩ := hld
          have HLD := hidH (show loadE (zs.take zs.length) (gs.take zs.length) (k : Int) = loadE zs gs (k : Int) by rw [List.take_length, show gs.take zs.length = gs from List.take_of_length_le (by have := HL3.out; omega)])
          generalize psumE zs gs k = ps at *
          generalize psomE zs gs sp k = pb at *
          go_wp2_with fail
          go_loop [10, 11] (fun ld i => ∃ j : Nat, j ≤ zs.length ∧ i = .int .i64 j ∧ ld = .int .i64 (loadE (zs.take j) (gs.take j) (k : Int))) (fun _ i => zs.length - (intOf i).toNat)
          case atStart => exact ⟨0, Nat.zero_le _, rfl, rfl⟩
          case round =>
            obtain ⟨j, hj, rfl, rfl⟩ := hrel
            by_cases hjl : j < zs.length
            · obtain ⟨t, ht⟩ := get_lt zs j hjl
              obtain ⟨g, hg⟩ := get_lt gs j (by have := HL3.out; omega)
              obtain ⟨b0, o0, rfl, _, _, cz⟩ := HZC.out j t ht
              obtain ⟨b1, o1, rfl, _, _, cy⟩ := HYC.out j g hg
              have hjg : j < gs.length := (List.getElem?_eq_some_iff.1 hg).1
              have ⟨t0, t1⟩ := HTB.out j t ht
              have HNX := hidH (loadE_next zs gs j t g (k : Int) ht hg)
              have ⟨x0, x1⟩ := HTK.out j (k : Int)
              generalize loadE (zs.take j) (gs.take j) (k : Int) = x at *
              clear ht hg
              by_cases hgk : g = (k : Int)
              · have b9 : (g == (k : Int)) = true := beq_iff_eq.2 hgk
                have HN := hidH (show loadE (zs.take (j + 1)) (gs.take (j + 1)) (k : Int) = x + t by rw [HNX.out, if_pos hgk])
                clear hgk HNX
                go_wp2_with fail
                go_round
                case rel => exact ⟨j + 1, by omega, by go_num, by rw [HN.out]⟩
                case measure => simp [intOf]; omega
              · have b9 : (g == (k : Int)) = false := beq_eq_false_iff_ne.2 hgk
                have HN := hidH (show loadE (zs.take (j + 1)) (gs.take (j + 1)) (k : Int) = x by rw [HNX.out, if_neg hgk, Int.add_zero])
                clear hgk HNX
                go_wp2_with fail
                go_round
                case rel => exact ⟨j + 1, by omega, by go_num, by rw [HN.out]⟩
                case measure => simp [intOf]; omega
            · obtain rfl : j = zs.length := by omega
              rw [HLD.out]
              clear HLD
              generalize loadE zs gs (k : Int) = ld at *
              have hnl : ¬ sp < ld := by omega
              cases pb
              · by_cases hls : ld = sp
                · have b9 : (ld == sp) = true := beq_iff_eq.2 hls
                  have HN := hidH (show psomE zs gs sp (k + 1) = true by rw [HPB.out, b9]; rfl)
                  clear hls
                  go_wp2_with fail
                  go_round
                  case rel => exact ⟨k + 1, by omega, by go_num, by rw [HPS.out], by rw [HN.out]⟩
                  case measure => simp [intOf]; omega
                · have b9 : (ld == sp) = false := beq_eq_false_iff_ne.2 hls
                  have HN := hidH (show psomE zs gs sp (k + 1) = false by rw [HPB.out, b9]; rfl)
                  clear hls
                  go_wp2_with fail
                  go_round
                  case rel => exact ⟨k + 1, by omega, by go_num, by rw [HPS.out], by rw [HN.out]⟩
                  case measure => simp [intOf]; omega
              · have HN := hidH (show psomE zs gs sp (k + 1) = true by rw [HPB.out]; rfl)
                go_wp2_with fail
                go_round
                case rel => exact ⟨k + 1, by omega, by go_num, by rw [HPS.out], by rw [HN.out]⟩
                case measure => simp [intOf]; omega
        · obtain rfl : k = 3 := by omega
          rw [HQ1.out]
          have ⟨ps0, ps1⟩ := psumE_bd zs gs HT.out 3 (by omega)
          generalize psumE zs gs 3 = ps at *
          go_wp2_with fail
          refine (HLS.out _ _ _ LZ_3.out).mono ?_; rintro e w9 ⟨rfl, hb⟩
          have B9 := hidH (bThen B3.out hb)
          clear hb
          go_wp2_with fail
          go_ret
          exact ⟨rfl, B9.out⟩
end Go.Proofs.Ytcinhmfjnjecdaa
