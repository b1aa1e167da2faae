/-
  The walk of the law of LeastSpan. No conditions but that slices fit in memory.
-/
import Derived.Test.YtcinhmfjnjecdaaDskO
namespace Go.Proofs.Ytcinhmfjnjecdaa
set_option maxRecDepth 4000
open Go.RowKit
theorem drop_at (zs : List Int) (k : Nat) (t : Int) (h : zs[k]? = some t) : zs.drop k = t :: zs.drop (k + 1) := by
  obtain ⟨hk, e⟩ := List.getElem?_eq_some_iff.1 h
  rw [List.drop_eq_getElem_cons hk, e]
theorem mostL_cons (t : Int) (l : List Int) : mostL (t :: l) = max (mostL l) t := by
  apply Int.le_antisymm
  · refine mostL_le _ _ (by have := mostL_ge l; omega) (fun j x hj => ?_)
    cases j with
    | zero => injection hj with hj; omega
    | succ j => have := mostL_get l j x hj; omega
  · refine Int.max_le.2 ⟨mostL_le _ _ (mostL_ge _) (fun j x hj => mostL_get (t :: l) (j + 1) x hj), mostL_get (t :: l) 0 t rfl⟩
theorem ints_rev (zs : List Int) (k : Nat) (t : Int) (h : zs[k]? = some t) : ints (zs.drop (k + 1)).reverse ++ [Value.int .i64 t] = ints (zs.drop k).reverse := by
  rw [drop_at zs k t h, List.reverse_cons]; simp [ints]
set_option maxHeartbeats 6400000 in
theorem lawLeastSpan (a : Option Addr) (len cap : Nat) (w : World) (hc : Came w a len cap) : Calls Try.prog 5 #[.slice a len cap] w (Gives (.bool true) w) := by
  have HC := hidH hc
  have hc1 := hc.lenLe
  have hc2 := hc.capLe
  unfold maxLen at hc2
  by_cases hbig : 1048576 < len
  · go_enter Try.func5, Try.ntmps5
    go_wp2
    go_ret
    exact ⟨rfl, Below.refl _ _⟩
  have hsm : len ≤ 1048576 := by omega
  clear hbig hc
  obtain ⟨i0, hi0, hz0, hz1, hz2⟩ := info_parts infoInt
  go_enter Try.func5, Try.ntmps5
  have B0 := hidH (Below.refl w.heap.size w)
  go_wp2_with fail
  refine (drawLeast8 a len cap _ HC.out hsm).mono ?_; rintro e w1 ⟨v, zs, n, rfl, hz, hl9, hn0, hn1, hb⟩
  have B1 := hidH (bThen B0.out hb)
  have s1 := hb.size
  have LZ_1 := hidH hz
  clear hb B0  hz
  obtain ⟨za, zcap, rfl, zc1, zc2, _, zcell⟩ := LZ_1.out
  unfold maxLen at zc2
  have HZC := hidH zcell
  clear zcell
  cases ht : timesOk zs && nEngOk n
  · have HT := hidH (least_no ht)
    clear ht
    go_wp2_with fail
    refine (leastS_any _ zs n _ _ _ LZ_1.out).mono ?_; rintro e w2 ⟨rfl, hb⟩
    rw [HT.out]
    have B2 := hidH (bThen B1.out hb)
    have s2 := hb.size
    have LZ_2 := hidH (LZ_1.out.below hb)
    clear hb B1 LZ_1
    go_wp2_with fail
    refine (sLeastS_any _ zs n _ _ _ LZ_2.out).mono ?_; rintro e w3 ⟨rfl, hb⟩
    rw [HT.out]
    have B3 := hidH (bThen B2.out hb)
    have s3 := hb.size
    have LZ_3 := hidH (LZ_2.out.below hb)
    clear hb B2 LZ_2
    go_wp2_with fail
    refine (sLeastS_any _ zs n _ _ _ LZ_3.out).mono ?_; rintro e w4 ⟨rfl, hb⟩
    rw [HT.out]
    have B4 := hidH (bThen B3.out hb)
    have s4 := hb.size
    have LZ_4 := hidH (LZ_3.out.below hb)
    clear hb B3 LZ_3
    go_wp2_with fail
    go_ret
    exact ⟨rfl, B4.out⟩
  · rw [Bool.and_eq_true] at ht
    have HT := hidH ht.1
    have ⟨n1, n2⟩ := of_decide_eq_true ht.2
    have ⟨sb1, sb2⟩ := sumT_bd zs ht.1
    have htb := (timesOk_parts ht.1)
    have HTB := hidH htb.2
    have hl8 := htb.1
    clear ht htb
    rcases (show n = ((1 : Nat) : Int) ∨ n = ((2 : Nat) : Int) ∨ n = ((3 : Nat) : Int) by omega) with rfl | rfl | rfl
    · have ⟨q1, q2, q3, q4, q5, q6⟩ := least_law zs 1 (by omega) (by omega) HT.out
      have HFW := hidH (least_no (T := zs) (n := 0) (by rw [show nEngOk 0 = false from rfl, Bool.and_false]))
      have HLS := hidH (fun W lo0 hi0 h0 => leastS_any (.slice za zs.length zcap) zs ((1 : Nat) : Int) W lo0 hi0 h0)
      have HSL := hidH (fun W lo0 hi0 h0 => sLeastS_any (.slice za zs.length zcap) zs ((1 : Nat) : Int) W lo0 hi0 h0)
      have HLR := hidH (fun v1 W lo0 hi0 h0 => leastS_any v1 zs.reverse ((1 : Nat) : Int) W lo0 hi0 h0)
      rw [q5] at HLR
      clear q5
      generalize leastA zs ((1 : Nat) : Int) = be at *
      have q2b : sumT zs ≤ be * 1 := by simpa using q2
      have q4b : be * 1 ≤ sumT zs + 0 * mostL zs := by simpa using q4
      clear q2 q4
      have q0 := mostL_ge zs
      go_wp2_with fail
      refine (HLS.out _ _ _ LZ_1.out).mono ?_; rintro e w2 ⟨rfl, hb⟩
      have B2 := hidH (bThen B1.out hb)
      have s2 := hb.size
      have LZ_2 := hidH (LZ_1.out.below hb)
      clear hb B1 LZ_1
      go_wp2_with fail
      refine (HSL.out _ _ _ LZ_2.out).mono ?_; rintro e w3 ⟨rfl, hb⟩
      have B3 := hidH (bThen B2.out hb)
      have s3 := hb.size
      have LZ_3 := hidH (LZ_2.out.below hb)
      clear hb B2 LZ_2
      have HO := hidH (World.ownsRow_made (base := w3.heap.size) (e := 3) (size := 1) w3 #[] 0 (Nat.le_refl _) (Nat.zero_le _) rfl)
      have HBa := hidH ((Below.refl w3.heap.size w3).alloc (Nat.le_refl _) (.cells #[] 3))
      have HLL := hidH LZ_3.out
      have HB3 := hidH B3.out
      go_wp2_with fail
      go_loopw [6, 7, 8, 9] (fun su mo o i wr => ∃ (k : Nat) (ov : Value), k ≤ zs.length ∧ i = .int .i64 ((k : Int) - 1) ∧ su = .int .i64 (sumT (zs.drop k)) ∧ mo = .int .i64 (mostL (zs.drop k)) ∧ ov = o ∧ (∃ q, q = zs.length - k ∧ wr.ownsRow w3.heap.size 3 1 ov q (ints (zs.drop k).reverse)) ∧ Below w3.heap.size w3 wr) (fun _ _ _ i _ => ((intOf i) + 1).toNat)
      case atStart => exact ⟨zs.length, _, Nat.le_refl _, rfl, by rw [List.drop_length]; rfl, by rw [List.drop_length]; rfl, rfl, ⟨_, rfl, by rw [List.drop_length, Nat.sub_self]; exact HO.out⟩, HBa.out⟩
      case round =>
        obtain ⟨k, ov, hk, rfl, rfl, rfl, rfl, ⟨q, hq, hown⟩, hb⟩ := hrel
        have HW := hidH hown
        have HBq := hidH hb
        have HQ := hidH hq
        have hq9 : q ≤ 9 := by omega
        have hszq : w3.heap.size ≤ wr.heap.size := hb.size
        have HLW := hidH (HLL.out.below hb)
        clear hown hb hq
        cases k with
        | succ p =>
          have hp1 : ((p + 1 : Nat) : Int) - 1 = (p : Int) := by omega
          rw [hp1]
          obtain ⟨t, ht⟩ := get_lt zs p (by omega)
          obtain ⟨b0, o0, rfl, _, _, hcz⟩ := HZC.out p t ht
          have hct : w1.cell? ⟨b0, o0 + p, none⟩ = some (.int .i64 t) := hcz
          have hlz := cell_blk _ _ _ hcz
          have hczr : wr.cell? ⟨b0, o0 + p, none⟩ = some (.int .i64 t) := by
            obtain ⟨a9, c9, e9, _, _, _, h9⟩ := HLW.out
            injection e9 with e9
            subst e9
            obtain ⟨b8, o8, e8, _, _, h8⟩ := h9 p t ht
            injection e8 with e8
            injection e8 with e8 e8'
            subst e8 e8'
            exact h8
          have ⟨t0, t1⟩ := HTB.out p t ht
          have HD := hidH (drop_at zs p t ht)
          have HS1 := hidH (show sumT (zs.drop p) = sumT (zs.drop (p + 1)) + t by rw [HD.out, sumT]; omega)
          have HM1 := hidH (show mostL (zs.drop p) = max (mostL (zs.drop (p + 1))) t by rw [HD.out, mostL_cons])
          have HI1 := hidH (ints_rev zs p t ht)
          have hsd : 0 ≤ sumT (zs.drop (p + 1)) ∧ sumT (zs.drop (p + 1)) ≤ 8000 := by
            refine sumT_bd _ (timesOk_of (by rw [List.length_drop]; omega) (fun j x hj => ?_))
            rw [List.getElem?_drop] at hj
            exact decide_eq_true (HTB.out _ x hj)
          obtain ⟨sd1, sd2⟩ := hsd
          have hpl : p < zs.length := by omega
          clear ht hcz hct
          generalize sumT (zs.drop (p + 1)) = sd at *
          generalize mostL (zs.drop (p + 1)) = md at *
          by_cases hmt : md < t
          · skip
            go_wp2_with (at_builtin; refine wpList_append_own _ rfl _ _ 23 rfl w3.heap.size 3 i0 (.int .i64 0) 1 8 Try.underlying23 hi0 hz0 hz1 hz2 rfl (by decide) _ _ _ rfl (owns_below HW.out ((Below.refl _ wr).alloc (Nat.le_refl _) _)) ⟨wr.heap.size, 0, none⟩ 1 1 [.int .i64 t] rfl rfl (news_one wr _ _) (one_one _) (by unfold maxLen; omega) (by omega) (by simp; omega) ?_)
            intro v' w9 hown1 hgrow _
            have HR9 := hidH hown1
            have HG9 := hidH hgrow
            clear hown1 hgrow
            go_wp2_with fail
            go_roundw
            case rel =>
              refine ⟨p, v', by omega, by go_num, by rw [HS1.out], by rw [HM1.out]; congr 1; omega, rfl, ⟨q + 1, by have := HQ.out; omega, by rw [← HI1.out]; exact HR9.out⟩, ?_⟩
              exact (HBq.out.alloc hszq _).grown HG9.out (by simp; omega) fun g hg => (HW.out.lt g hg).1
            case measure => simp [intOf]
          · skip
            go_wp2_with (at_builtin; refine wpList_append_own _ rfl _ _ 23 rfl w3.heap.size 3 i0 (.int .i64 0) 1 8 Try.underlying23 hi0 hz0 hz1 hz2 rfl (by decide) _ _ _ rfl (owns_below HW.out ((Below.refl _ wr).alloc (Nat.le_refl _) _)) ⟨wr.heap.size, 0, none⟩ 1 1 [.int .i64 t] rfl rfl (news_one wr _ _) (one_one _) (by unfold maxLen; omega) (by omega) (by simp; omega) ?_)
            intro v' w9 hown1 hgrow _
            have HR9 := hidH hown1
            have HG9 := hidH hgrow
            clear hown1 hgrow
            go_wp2_with fail
            go_roundw
            case rel =>
              refine ⟨p, v', by omega, by go_num, by rw [HS1.out], by rw [HM1.out]; congr 1; omega, rfl, ⟨q + 1, by have := HQ.out; omega, by rw [← HI1.out]; exact HR9.out⟩, ?_⟩
              exact (HBq.out.alloc hszq _).grown HG9.out (by simp; omega) fun g hg => (HW.out.lt g hg).1
            case measure => simp [intOf]
        | zero =>
          rw [List.drop_zero] at *
          have HRV := hidH (row_of_owns HW.out).1
          have HBB := hidH (bThen HB3.out HBq.out)
          go_wp2_with fail
          refine (leastS_any _ zs 0 wr _ _ HLW.out).mono ?_; rintro e w8 ⟨rfl, hb8⟩
          rw [HFW.out]
          have HB8 := hidH (bThen HBB.out hb8)
          have HRV8 := hidH (HRV.out.below hb8)
          clear hb8 HBB HRV
          go_wp2_with fail
          refine (HLR.out _ _ _ _ HRV8.out.lies).mono ?_; rintro e w9 ⟨rfl, hb9⟩
          have HB9 := hidH (bThen HB8.out hb9)
          clear hb9 HB8 HRV8
          go_wp2_with fail
          go_ret
          exact ⟨rfl, HB9.out⟩
    · have ⟨q1, q2, q3, q4, q5, q6⟩ := least_law zs 2 (by omega) (by omega) HT.out
      have ⟨f1, f2⟩ := least_law2 zs 1 (by omega) (by omega) HT.out
      have HFL := hidH (fun W lo0 hi0 h0 => leastS_any (.slice za zs.length zcap) zs ((1 : Nat) : Int) W lo0 hi0 h0)
      generalize leastA zs ((1 : Nat) : Int) = fw at *
      have HLS := hidH (fun W lo0 hi0 h0 => leastS_any (.slice za zs.length zcap) zs ((2 : Nat) : Int) W lo0 hi0 h0)
      have HSL := hidH (fun W lo0 hi0 h0 => sLeastS_any (.slice za zs.length zcap) zs ((2 : Nat) : Int) W lo0 hi0 h0)
      have HLR := hidH (fun v1 W lo0 hi0 h0 => leastS_any v1 zs.reverse ((2 : Nat) : Int) W lo0 hi0 h0)
      rw [q5] at HLR
      clear q5
      generalize leastA zs ((2 : Nat) : Int) = be at *
      have q2b : sumT zs ≤ be * 2 := by simpa using q2
      have q4b : be * 2 ≤ sumT zs + 1 * mostL zs := by simpa using q4
      clear q2 q4
      have q0 := mostL_ge zs
      go_wp2_with fail
      refine (HLS.out _ _ _ LZ_1.out).mono ?_; rintro e w2 ⟨rfl, hb⟩
      have B2 := hidH (bThen B1.out hb)
      have s2 := hb.size
      have LZ_2 := hidH (LZ_1.out.below hb)
      clear hb B1 LZ_1
      go_wp2_with fail
      refine (HSL.out _ _ _ LZ_2.out).mono ?_; rintro e w3 ⟨rfl, hb⟩
      have B3 := hidH (bThen B2.out hb)
      have s3 := hb.size
      have LZ_3 := hidH (LZ_2.out.below hb)
      clear hb B2 LZ_2
      have HO := hidH (World.ownsRow_made (base := w3.heap.size) (e := 3) (size := 1) w3 #[] 0 (Nat.le_refl _) (Nat.zero_le _) rfl)
      have HBa := hidH ((Below.refl w3.heap.size w3).alloc (Nat.le_refl _) (.cells #[] 3))
      have HLL := hidH LZ_3.out
      have HB3 := hidH B3.out
      go_wp2_with fail
      go_loopw [6, 7, 8, 9] (fun su mo o i wr => ∃ (k : Nat) (ov : Value), k ≤ zs.length ∧ i = .int .i64 ((k : Int) - 1) ∧ su = .int .i64 (sumT (zs.drop k)) ∧ mo = .int .i64 (mostL (zs.drop k)) ∧ ov = o ∧ (∃ q, q = zs.length - k ∧ wr.ownsRow w3.heap.size 3 1 ov q (ints (zs.drop k).reverse)) ∧ Below w3.heap.size w3 wr) (fun _ _ _ i _ => ((intOf i) + 1).toNat)
      case atStart => exact ⟨zs.length, _, Nat.le_refl _, rfl, by rw [List.drop_length]; rfl, by rw [List.drop_length]; rfl, rfl, ⟨_, rfl, by rw [List.drop_length, Nat.sub_self]; exact HO.out⟩, HBa.out⟩
      case round =>
        obtain ⟨k, ov, hk, rfl, rfl, rfl, rfl, ⟨q, hq, hown⟩, hb⟩ := hrel
        have HW := hidH hown
        have HBq := hidH hb
        have HQ := hidH hq
        have hq9 : q ≤ 9 := by omega
        have hszq : w3.heap.size ≤ wr.heap.size := hb.size
        have HLW := hidH (HLL.out.below hb)
        clear hown hb hq
        cases k with
        | succ p =>
          have hp1 : ((p + 1 : Nat) : Int) - 1 = (p : Int) := by omega
          rw [hp1]
          obtain ⟨t, ht⟩ := get_lt zs p (by omega)
          obtain ⟨b0, o0, rfl, _, _, hcz⟩ := HZC.out p t ht
          have hct : w1.cell? ⟨b0, o0 + p, none⟩ = some (.int .i64 t) := hcz
          have hlz := cell_blk _ _ _ hcz
          have hczr : wr.cell? ⟨b0, o0 + p, none⟩ = some (.int .i64 t) := by
            obtain ⟨a9, c9, e9, _, _, _, h9⟩ := HLW.out
            injection e9 with e9
            subst e9
            obtain ⟨b8, o8, e8, _, _, h8⟩ := h9 p t ht
            injection e8 with e8
            injection e8 with e8 e8'
            subst e8 e8'
            exact h8
          have ⟨t0, t1⟩ := HTB.out p t ht
          have HD := hidH (drop_at zs p t ht)
          have HS1 := hidH (show sumT (zs.drop p) = sumT (zs.drop (p + 1)) + t by rw [HD.out, sumT]; omega)
          have HM1 := hidH (show mostL (zs.drop p) = max (mostL (zs.drop (p + 1))) t by rw [HD.out, mostL_cons])
          have HI1 := hidH (ints_rev zs p t ht)
          have hsd : 0 ≤ sumT (zs.drop (p + 1)) ∧ sumT (zs.drop (p + 1)) ≤ 8000 := by
            refine sumT_bd _ (timesOk_of (by rw [List.length_drop]; omega) (fun j x hj => ?_))
            rw [List.getElem?_drop] at hj
            exact decide_eq_true (HTB.out _ x hj)
          obtain ⟨sd1, sd2⟩ := hsd
          have hpl : p < zs.length := by omega
          clear ht hcz hct
          generalize sumT (zs.drop (p + 1)) = sd at *
          generalize mostL (zs.drop (p + 1)) = md at *
          by_cases hmt : md < t
          · skip
            go_wp2_with (at_builtin; refine wpList_append_own _ rfl _ _ 23 rfl w3.heap.size 3 i0 (.int .i64 0) 1 8 Try.underlying23 hi0 hz0 hz1 hz2 rfl (by decide) _ _ _ rfl (owns_below HW.out ((Below.refl _ wr).alloc (Nat.le_refl _) _)) ⟨wr.heap.size, 0, none⟩ 1 1 [.int .i64 t] rfl rfl (news_one wr _ _) (one_one _) (by unfold maxLen; omega) (by omega) (by simp; omega) ?_)
            intro v' w9 hown1 hgrow _
            have HR9 := hidH hown1
            have HG9 := hidH hgrow
            clear hown1 hgrow
            go_wp2_with fail
            go_roundw
            case rel =>
              refine ⟨p, v', by omega, by go_num, by rw [HS1.out], by rw [HM1.out]; congr 1; omega, rfl, ⟨q + 1, by have := HQ.out; omega, by rw [← HI1.out]; exact HR9.out⟩, ?_⟩
              exact (HBq.out.alloc hszq _).grown HG9.out (by simp; omega) fun g hg => (HW.out.lt g hg).1
            case measure => simp [intOf]
          · skip
            go_wp2_with (at_builtin; refine wpList_append_own _ rfl _ _ 23 rfl w3.heap.size 3 i0 (.int .i64 0) 1 8 Try.underlying23 hi0 hz0 hz1 hz2 rfl (by decide) _ _ _ rfl (owns_below HW.out ((Below.refl _ wr).alloc (Nat.le_refl _) _)) ⟨wr.heap.size, 0, none⟩ 1 1 [.int .i64 t] rfl rfl (news_one wr _ _) (one_one _) (by unfold maxLen; omega) (by omega) (by simp; omega) ?_)
            intro v' w9 hown1 hgrow _
            have HR9 := hidH hown1
            have HG9 := hidH hgrow
            clear hown1 hgrow
            go_wp2_with fail
            go_roundw
            case rel =>
              refine ⟨p, v', by omega, by go_num, by rw [HS1.out], by rw [HM1.out]; congr 1; omega, rfl, ⟨q + 1, by have := HQ.out; omega, by rw [← HI1.out]; exact HR9.out⟩, ?_⟩
              exact (HBq.out.alloc hszq _).grown HG9.out (by simp; omega) fun g hg => (HW.out.lt g hg).1
            case measure => simp [intOf]
        | zero =>
          rw [List.drop_zero] at *
          have HRV := hidH (row_of_owns HW.out).1
          have HBB := hidH (bThen HB3.out HBq.out)
          go_wp2_with fail
          refine (HFL.out wr _ _ HLW.out).mono ?_; rintro e w8 ⟨rfl, hb8⟩
          have HB8 := hidH (bThen HBB.out hb8)
          have HRV8 := hidH (HRV.out.below hb8)
          clear hb8 HBB HRV
          go_wp2_with fail
          refine (HLR.out _ _ _ _ HRV8.out.lies).mono ?_; rintro e w9 ⟨rfl, hb9⟩
          have HB9 := hidH (bThen HB8.out hb9)
          clear hb9 HB8 HRV8
          go_wp2_with fail
          go_ret
          exact ⟨rfl, HB9.out⟩
    · have ⟨q1, q2, q3, q4, q5, q6⟩ := least_law zs 3 (by omega) (by omega) HT.out
      have ⟨f1, f2⟩ := least_law2 zs 2 (by omega) (by omega) HT.out
      have HFL := hidH (fun W lo0 hi0 h0 => leastS_any (.slice za zs.length zcap) zs ((2 : Nat) : Int) W lo0 hi0 h0)
      generalize leastA zs ((2 : Nat) : Int) = fw at *
      have HLS := hidH (fun W lo0 hi0 h0 => leastS_any (.slice za zs.length zcap) zs ((3 : Nat) : Int) W lo0 hi0 h0)
      have HSL := hidH (fun W lo0 hi0 h0 => sLeastS_any (.slice za zs.length zcap) zs ((3 : Nat) : Int) W lo0 hi0 h0)
      have HLR := hidH (fun v1 W lo0 hi0 h0 => leastS_any v1 zs.reverse ((3 : Nat) : Int) W lo0 hi0 h0)
      rw [q5] at HLR
      clear q5
      generalize leastA zs ((3 : Nat) : Int) = be at *
      have q2b : sumT zs ≤ be * 3 := by simpa using q2
      have q4b : be * 3 ≤ sumT zs + 2 * mostL zs := by simpa using q4
      clear q2 q4
      have q0 := mostL_ge zs
      go_wp2_with fail
      refine (HLS.out _ _ _ LZ_1.out).mono ?_; rintro e w2 ⟨rfl, hb⟩
      have B2 := hidH (bThen B1.out hb)
      have s2 := hb.size
      have LZ_2 := hidH (LZ_1.out.below hb)
      clear hb B1 LZ_1
      go_wp2_with fail
      refine (HSL.out _ _ _ LZ_2.out).mono ?_; rintro e w3 ⟨rfl, hb⟩
      have B3 := hidH (bThen B2.out hb)
      have s3 := hb.size
      have LZ_3 := hidH (LZ_2.out.below hb)
      clear hb B2 LZ_2
      have HO := hidH (World.ownsRow_made (base := w3.heap.size) (e := 3) (size := 1) w3 #[] 0 (Nat.le_refl _) (Nat.zero_le _) rfl)
      have HBa := hidH ((Below.refl w3.heap.size w3).alloc (Nat.le_refl _) (.cells #[] 3))
      have HLL := hidH LZ_3.out
      have HB3 := hidH B3.out
      go_wp2_with fail
      go_loopw [6, 7, 8, 9] (fun su mo o i wr => ∃ (k : Nat) (ov : Value), k ≤ zs.length ∧ i = .int .i64 ((k : Int) - 1) ∧ su = .int .i64 (sumT (zs.drop k)) ∧ mo = .int .i64 (mostL (zs.drop k)) ∧ ov = o ∧ (∃ q, q = zs.length - k ∧ wr.ownsRow w3.heap.size 3 1 ov q (ints (zs.drop k).reverse)) ∧ Below w3.heap.size w3 wr) (fun _ _ _ i _ => ((intOf i) + 1).toNat)
      case atStart => exact ⟨zs.length, _, Nat.le_refl _, rfl, by rw [List.drop_length]; rfl, by rw [List.drop_length]; rfl, rfl, ⟨_, rfl, by rw [List.drop_length, Nat.sub_self]; exact HO.out⟩, HBa.out⟩
      case round =>
        obtain ⟨k, ov, hk, rfl, rfl, rfl, rfl, ⟨q, hq, hown⟩, hb⟩ := hrel
        have HW := hidH hown
        have HBq := hidH hb
        have HQ := hidH hq
        have hq9 : q ≤ 9 := by omega
        have hszq : w3.heap.size ≤ wr.heap.size := hb.size
        have HLW := hidH (HLL.out.below hb)
        clear hown hb hq
        cases k with
        | succ p =>
          have hp1 : ((p + 1 : Nat) : Int) - 1 = (p : Int) := by omega
          rw [hp1]
          obtain ⟨t, ht⟩ := get_lt zs p (by omega)
          obtain ⟨b0, o0, rfl, _, _, hcz⟩ := HZC.out p t ht
          have hct : w1.cell? ⟨b0, o0 + p, none⟩ = some (.int .i64 t) := hcz
          have hlz := cell_blk _ _ _ hcz
          have hczr : wr.cell? ⟨b0, o0 + p, none⟩ = some (.int .i64 t) := by
            obtain ⟨a9, c9, e9, _, _, _, h9⟩ := HLW.out
            injection e9 with e9
            subst e9
            obtain ⟨b8, o8, e8, _, _, h8⟩ := h9 p t ht
            injection e8 with e8
            injection e8 with e8 e8'
            subst e8 e8'
            exact h8
          have ⟨t0, t1⟩ := HTB.out p t ht
          have HD := hidH (drop_at zs p t ht)
          have HS1 := hidH (show sumT (zs.drop p) = sumT (zs.drop (p + 1)) + t by rw [HD.out, sumT]; omega)
          have HM1 := hidH (show mostL (zs.drop p) = max (mostL (zs.drop (p + 1))) t by rw [HD.out, mostL_cons])
          have HI1 := hidH (ints_rev zs p t ht)
          have hsd : 0 ≤ sumT (zs.drop (p + 1)) ∧ sumT (zs.drop (p + 1)) ≤ 8000 := by
            refine sumT_bd _ (timesOk_of (by rw [List.length_drop]; omega) (fun j x hj => ?_))
            rw [List.getElem?_drop] at hj
            exact decide_eq_true (HTB.out _ x hj)
          obtain ⟨sd1, sd2⟩ := hsd
          have hpl : p < zs.length := by omega
          clear ht hcz hct
          generalize sumT (zs.drop (p + 1)) = sd at *
          generalize mostL (zs.drop (p + 1)) = md at *
          by_cases hmt : md < t
          · skip
            go_wp2_with (at_builtin; refine wpList_append_own _ rfl _ _ 23 rfl w3.heap.size 3 i0 (.int .i64 0) 1 8 Try.underlying23 hi0 hz0 hz1 hz2 rfl (by decide) _ _ _ rfl (owns_below HW.out ((Below.refl _ wr).alloc (Nat.le_refl _) _)) ⟨wr.heap.size, 0, none⟩ 1 1 [.int .i64 t] rfl rfl (news_one wr _ _) (one_one _) (by unfold maxLen; omega) (by omega) (by simp; omega) ?_)
            intro v' w9 hown1 hgrow _
            have HR9 := hidH hown1
            have HG9 := hidH hgrow
            clear hown1 hgrow
            go_wp2_with fail
            go_roundw
            case rel =>
              refine ⟨p, v', by omega, by go_num, by rw [HS1.out], by rw [HM1.out]; congr 1; omega, rfl, ⟨q + 1, by have := HQ.out; omega, by rw [← HI1.out]; exact HR9.out⟩, ?_⟩
              exact (HBq.out.alloc hszq _).grown HG9.out (by simp; omega) fun g hg => (HW.out.lt g hg).1
            case measure => simp [intOf]
          · skip
            go_wp2_with (at_builtin; refine wpList_append_own _ rfl _ _ 23 rfl w3.heap.size 3 i0 (.int .i64 0) 1 8 Try.underlying23 hi0 hz0 hz1 hz2 rfl (by decide) _ _ _ rfl (owns_below HW.out ((Below.refl _ wr).alloc (Nat.le_refl _) _)) ⟨wr.heap.size, 0, none⟩ 1 1 [.int .i64 t] rfl rfl (news_one wr _ _) (one_one _) (by unfold maxLen; omega) (by omega) (by simp; omega) ?_)
            intro v' w9 hown1 hgrow _
            have HR9 := hidH hown1
            have HG9 := hidH hgrow
            clear hown1 hgrow
            go_wp2_with fail
            go_roundw
            case rel =>
              refine ⟨p, v', by omega, by go_num, by rw [HS1.out], by rw [HM1.out]; congr 1; omega, rfl, ⟨q + 1, by have := HQ.out; omega, by rw [← HI1.out]; exact HR9.out⟩, ?_⟩
              exact (HBq.out.alloc hszq _).grown HG9.out (by simp; omega) fun g hg => (HW.out.lt g hg).1
            case measure => simp [intOf]
        | zero =>
          rw [List.drop_zero] at *
          have HRV := hidH (row_of_owns HW.out).1
          have HBB := hidH (bThen HB3.out HBq.out)
          go_wp2_with fail
          refine (HFL.out wr _ _ HLW.out).mono ?_; rintro e w8 ⟨rfl, hb8⟩
          have HB8 := hidH (bThen HBB.out hb8)
          have HRV8 := hidH (HRV.out.below hb8)
          clear hb8 HBB HRV
          go_wp2_with fail
          refine (HLR.out _ _ _ _ HRV8.out.lies).mono ?_; rintro e w9 ⟨rfl, hb9⟩
          have HB9 := hidH (bThen HB8.out hb9)
          clear hb9 HB8 HRV8
          go_wp2_with fail
          go_ret
          exact ⟨rfl, HB9.out⟩
end Go.Proofs.Ytcinhmfjnjecdaa
