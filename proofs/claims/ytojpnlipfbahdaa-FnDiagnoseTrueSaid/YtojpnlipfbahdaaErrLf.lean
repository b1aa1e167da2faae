/-
  The walk of a law: a slip whose effect reaches the results is found with its amount, and with its column and its turn if at least two results are wrong. No conditions but that the bytes that came in can be read.
-/
import Derived.Test.YtojpnlipfbahdaaErrKa
import Derived.Test.YtojpnlipfbahdaaErrE2
import Derived.Test.YtojpnlipfbahdaaDeFns
namespace Go.Proofs.Ytojpnlipfbahdaa
set_option maxRecDepth 4000
open Go.RowKit
theorem seekC_some (D : List Int) (f : Nat) : ∀ (m c k : Nat), seekC D f m c = some k → c ≤ k ∧ k < c + m ∧ sameC D f k = true := by
  intro m
  induction m with
  | zero => intro c k h; cases h
  | succ m ih =>
    intro c k h
    rw [seekC] at h
    split at h
    · rename_i he; injection h with h; subst h; exact ⟨Nat.le_refl _, by omega, he⟩
    · have ⟨h1, h2, h3⟩ := ih (c + 1) k h
      exact ⟨by omega, by omega, h3⟩
theorem seekC_least (D : List Int) (f : Nat) : ∀ (m c k : Nat), c ≤ k → k < c + m → sameC D f k = true → ∃ j, seekC D f m c = some j ∧ j ≤ k := by
  intro m
  induction m with
  | zero => intro c k h1 h2; omega
  | succ m ih =>
    intro c k h1 h2 h3
    rw [seekC]
    split
    · exact ⟨c, rfl, h1⟩
    · rename_i he
      by_cases e : k = c
      · subst e; exact absurd h3 he
      · exact ih (c + 1) k (by omega) (by omega) h3
theorem zeros_ok (n : Nat) (h1 : 1 ≤ n) (h2 : n ≤ 60) : tableOk (List.replicate n 0) = true :=
  (listOk_iff _ _ _).2 ⟨by simpa using h1, by simpa using h2, fun x hx => by rw [(List.mem_replicate.1 hx).2]; omega⟩
theorem wrong_zeros (E : List Int) : wrongL (List.replicate E.length 0) E = E := by
  refine list_ext (by rw [wrongL_length]; simp) fun i x y hx hy => ?_
  have hi := (List.getElem?_eq_some_iff.1 hy).1
  rw [wrongL_get (List.replicate E.length 0) E i 0 y (by rw [List.getElem?_replicate, if_pos hi]) hy] at hx
  injection hx with hx
  omega
theorem effL_getD (c t : Nat) (a : Int) (N n : Nat) (h : n < N) : (effL c t a N).getD n 0 = effN c t a n := getD_of (effL_get c t a N n h)
/-- The effect of a slip that shows. -/
theorem found_eff (C T N : Nat) (m : Int) (hC : C ≤ 6) (hT : T ≤ 59) (hN : N ≤ 60) (h1 : 1 ≤ N) (hm : -100000 ≤ m ∧ m ≤ 100000) (ht : tableOk (effL C T m N) = true) :
    ((m = 0 ∨ N ≤ T + C) → diagO (List.replicate N 0) (effL C T m N) = none) ∧
    (m ≠ 0 → T + C < N → ∃ k, k ≤ C ∧ diagO (List.replicate N 0) (effL C T m N) = some k ∧ effL k (T + C - k) m N = effL C T m N ∧ (T + C + 1 < N → k = C) ∧ fnz (effL C T m N) = T + C) := by
  have hl := effL_length C T m N
  have hW : wrongL (List.replicate N 0) (effL C T m N) = effL C T m N := by have := wrong_zeros (effL C T m N); rw [hl] at this; exact this
  have hzero : ∀ n, n < T + C → effN C T m n = 0 := fun n hn => by
    unfold effN
    split
    · rfl
    · rw [chN_low (n - T) C (by omega), Int.mul_zero]
  refine ⟨fun h => ?_, fun h0 hlt => ?_⟩
  · have hf : fnz (effL C T m N) = N := by
      refine (fnz_eq _ N (by rw [hl]; exact Nat.le_refl _) (fun j z hj hz => ?_) (fun z hz => by rw [List.getElem?_eq_none (by rw [hl]; exact Nat.le_refl _)] at hz; cases hz))
      rw [effL_get C T m N j hj] at hz
      injection hz with hz
      rw [← hz]
      rcases h with h | h
      · unfold effN; split
        · rfl
        · rw [h, Int.zero_mul]
      · exact hzero j (by omega)
    rw [diagO, hW, hf, List.length_replicate, decide_eq_false (by omega), Bool.false_and, Bool.and_false]; rfl
  · have hf : fnz (effL C T m N) = T + C := by
      refine fnz_eq _ _ (by rw [hl]; omega) (fun j z hj hz => ?_) (fun z hz => ?_)
      · rw [effL_get C T m N j (by omega)] at hz
        injection hz with hz
        rw [← hz]; exact hzero j hj
      · rw [effL_get C T m N _ hlt] at hz
        injection hz with hz
        rw [← hz, effN, if_neg (by omega), show T + C - T = C by omega]
        have hc : chN (C : Nat) C = 1 := by
          have : ∀ c, c < 7 → chN (c : Nat) c = 1 := by decide
          exact this C (by omega)
        rw [hc, Int.mul_one]; exact h0
    have hD : (effL C T m N).getD (T + C) 0 = m := by
      rw [effL_getD C T m N _ hlt, effN, if_neg (by omega), show T + C - T = C by omega]
      have : ∀ c, c < 7 → chN (c : Nat) c = 1 := by decide
      rw [this C (by omega), Int.mul_one]
    have hO : diagO (List.replicate N 0) (effL C T m N) = seekC (effL C T m N) (T + C) (min (T + C) 6 + 1) 0 := by
      rw [diagO, hW, hf, hD, List.length_replicate, decide_eq_true hlt, show tabsOk (List.replicate N 0) (effL C T m N) = true by rw [tabsOk, zeros_ok N h1 hN, ht, List.length_replicate, hl, decide_eq_true rfl]; rfl, show inB 100000 m = true from decide_eq_true hm]; rfl
    have hsame : sameC (effL C T m N) (T + C) C = true := by
      unfold sameC
      rw [decide_eq_true_eq]
      intro n hn
      rw [hl] at hn
      rw [hD, effL_getD C T m N n hn, show T + C - C = T by omega]
    obtain ⟨k, hk, hkC⟩ := seekC_least (effL C T m N) (T + C) (min (T + C) 6 + 1) 0 C (by omega) (by omega) hsame
    have ⟨_, _, hks⟩ := seekC_some _ _ _ _ _ hk
    unfold sameC at hks
    rw [decide_eq_true_eq, hD] at hks
    refine ⟨k, hkC, hO.trans hk, ?_, fun h2 => ?_, hf⟩
    · refine list_ext (by rw [effL_length, hl]) fun i x y hx hy => ?_
      have hi := (List.getElem?_eq_some_iff.1 hy).1
      rw [hl] at hi
      rw [effL_get k (T + C - k) m N i hi] at hx
      have := hks i (by rw [hl]; exact hi)
      rw [getD_of hy] at this
      injection hx with hx
      rw [← hx, this]
    · have h3 := hks (T + C + 1) (by rw [hl]; exact h2)
      rw [effL_getD C T m N _ h2, effN, if_neg (by omega), effN, if_neg (by omega), show T + C + 1 - T = C + 1 by omega, show T + C + 1 - (T + C - k) = k + 1 by omega] at h3
      have hc1 : ∀ c, c < 7 → chN ((c + 1 : Nat) : Int) c = (c : Int) + 1 := by decide
      rw [hc1 C (by omega), hc1 k (by omega)] at h3
      have := Int.eq_of_mul_eq_mul_left h0 h3
      omega
theorem effOk_bd2 {c t a n : Int} (h : effOk c t a n = true) : 0 ≤ c ∧ c ≤ 6 ∧ 0 ≤ t ∧ t ≤ 59 ∧ -100000 ≤ a ∧ a ≤ 100000 ∧ 0 ≤ n ∧ n ≤ 60 := by
  simp only [effOk, Bool.and_eq_true] at h
  have := slip_bd h.1
  have := of_decide_eq_true h.2
  omega
theorem effOk_of {c t a n : Int} (h1 : 0 ≤ c) (h2 : c ≤ 6) (h3 : 0 ≤ t) (h4 : t ≤ 59) (h5 : -100000 ≤ a ∧ a ≤ 100000) (h7 : 0 ≤ n) (h8 : n ≤ 60) : effOk c t a n = true := by
  unfold effOk slipOk colOk trnOk cntOk4 inB
  simp [h1, h2, h3, h4, h5, h7, h8]
set_option maxHeartbeats 2000000 in
theorem lawDiagnoseFound (a : Option Addr) (len cap : Nat) (w : World) (hc : Came w a len cap) : Calls Try.prog 5 #[.slice a len cap] w (Gives (.bool true) w) := by
  have hcap := hc.lenLe
  have hcap2 := hc.capLe
  unfold maxLen at hcap2
  by_cases hbig : 1048576 < len
  · clear hc
    go_enter Try.func5, Try.ntmps5
    go_wp2
    go_ret
    exact ⟨rfl, Below.refl _ _⟩
  · have HD := hidH (drawSlipEffect a len cap w hc (by omega))
    clear hc
    go_enter Try.func5, Try.ntmps5
    go_wp2_with fail
    refine HD.out.mono ?_
    rintro e w1 ⟨c, t, m, n, rfl, hB⟩
    have B1 := hidH hB
    clear hB HD
    have HI := hidH (fun w => slipE_any c t m n w)
    have HS := hidH (fun w => sSlipE_any c t m n w)
    go_wp2_with fail
    refine (HI.out w1).mono ?_; rintro e w2 ⟨v, rfl, hr, hb⟩
    have B2 := hidH (B1.out.trans (hb.mono B1.out.size))
    have V2 := hidH hr
    clear hb hr
    go_wp2_with fail
    refine (HS.out w2).mono ?_; rintro e w3 ⟨u, rfl, hr, hb⟩
    have B3 := hidH (B2.out.trans (hb.mono B2.out.size))
    have V3 := hidH (V2.out.below hb)
    have U3 := hidH hr
    clear hb hr V2 HI HS
    go_wp2_with fail
    refine (deInts_yes v u (effA c t m n) _ _ _ _ _ V3.out.lies U3.out.lies).mono ?_; rintro e w4 ⟨rfl, hb⟩
    have B4 := hidH (B3.out.trans (hb.mono B3.out.size))
    have V4 := hidH (V3.out.below hb)
    have U4 := hidH (U3.out.below hb)
    clear hb V3 U3
    cases hok : effOk c t m n
    · clear hok
      go_wp2_with fail
      refine (deInts_yes v u (effA c t m n) _ _ _ _ _ V4.out.lies U4.out.lies).mono ?_; rintro e w5 ⟨rfl, hb⟩
      have B5 := hidH (B4.out.trans (hb.mono B4.out.size))
      clear hb
      go_wp2_with fail
      go_ret
      exact ⟨rfl, B5.out⟩
    · have HOK := hidH hok
      have ⟨c1, c2, t1, t2, m1, m2, n1, n2⟩ := effOk_bd2 hok
      have hE : effA c t m n = effL c.toNat t.toNat m n.toNat := by rw [effA, hok]; rfl
      by_cases hn0 : n = 0
      · have hnb : (n == 0) = true := beq_iff_eq.2 hn0
        clear hok hE hn0
        go_wp2_with fail
        refine (deInts_yes v u (effA c t m n) _ _ _ _ _ V4.out.lies U4.out.lies).mono ?_; rintro e w5 ⟨rfl, hb⟩
        have B5 := hidH (B4.out.trans (hb.mono B4.out.size))
        clear hb
        go_wp2_with fail
        go_ret
        exact ⟨rfl, B5.out⟩
      · have hnb : (n == 0) = false := beq_eq_false_iff_ne.2 hn0
        cases htab : tableOk (effA c t m n)
        · have HT := hidH htab
          clear hok hE hn0 htab
          go_wp2_with fail
          refine (tableValid_any v (effA c t m n) _ _ _ V4.out.lies).mono ?_; rintro e w5 ⟨rfl, hb⟩
          rw [HT.out]
          have B5 := hidH (B4.out.trans (hb.mono B4.out.size))
          have V5 := hidH (V4.out.below hb)
          have U5 := hidH (U4.out.below hb)
          clear hb V4 U4
          go_wp2_with fail
          refine (deInts_yes v u (effA c t m n) _ _ _ _ _ V5.out.lies U5.out.lies).mono ?_; rintro e w6 ⟨rfl, hb⟩
          have B6 := hidH (B5.out.trans (hb.mono B5.out.size))
          clear hb
          go_wp2_with fail
          go_ret
          exact ⟨rfl, B6.out⟩
        · have HT := hidH htab
          clear htab
          go_wp2_with fail
          refine (tableValid_any v (effA c t m n) _ _ _ V4.out.lies).mono ?_; rintro e w5 ⟨rfl, hb⟩
          rw [HT.out]
          have B5 := hidH (B4.out.trans (hb.mono B4.out.size))
          have V5 := hidH (V4.out.below hb)
          clear hb V4 U4
          rw [hE] at V5 HT
          obtain ⟨C, rfl⟩ := Int.eq_ofNat_of_zero_le c1
          obtain ⟨T, rfl⟩ := Int.eq_ofNat_of_zero_le t1
          obtain ⟨N, rfl⟩ := Int.eq_ofNat_of_zero_le n1
          rw [Int.toNat_natCast, Int.toNat_natCast, Int.toNat_natCast] at V5 HT
          have hN1 : 1 ≤ N := by omega
          have ⟨F1, F2⟩ := found_eff C T N m (by omega) (by omega) (by omega) hN1 ⟨m1, m2⟩ HT.out
          have HF1 := hidH F1
          have HF2 := hidH F2
          have HM := hidH (Blk.made w5 3 N)
          have hmk := run_make_row' (P := Try.prog) 25 3 (.int .i64 0) 8 Try.underlying25 infoInt rfl .i64 .i64 N (by omega) (by omega) w5
          have V6 := hidH (V5.out.below ((Below.refl _ _).alloc (Nat.le_refl _) (.cells (madeCells #[Value.int .i64 0] N) 3)))
          have B6 := hidH (B5.out.alloc B5.out.size (.cells (madeCells #[Value.int .i64 0] N) 3))
          have Z6 := hidH (HM.out.row (lo := w5.heap.size) (cap := N) (n := N) (Nat.le_refl _) HM.out.1 (by simp) (by unfold maxLen; omega) (by simp))
          clear hok hE hn0 F1 F2 HM V5
          go_wp2_with fail
          generalize w5.alloc (.cells (madeCells #[Value.int .i64 0] N) 3) = w6 at *
          refine (diag_any _ (List.replicate N 0) v (effL C T m N) _ _ _ _ _ Z6.out.lies V6.out.lies).mono ?_; rintro e w7 ⟨rfl, hb⟩
          have B7 := hidH (B6.out.trans (hb.mono B6.out.size))
          have V7 := hidH (V6.out.below hb)
          clear hb V6 Z6
          by_cases hm0 : m = 0
          · obtain ⟨e1, e2, e3, e4⟩ := diag_none (HF1.out (.inl hm0))
            rw [e1, e2, e3, e4]
            have hmb : (m == 0) = true := beq_iff_eq.2 hm0
            clear hm0 e1 e2 e3 e4
            go_wp2_with fail
            go_ret
            exact ⟨rfl, B7.out⟩
          · have hmb : (m == 0) = false := beq_eq_false_iff_ne.2 hm0
            by_cases htc : N ≤ T + C
            · obtain ⟨e1, e2, e3, e4⟩ := diag_none (HF1.out (.inr htc))
              rw [e1, e2, e3, e4]
              clear hm0 e1 e2 e3 e4
              go_wp2_with fail
              go_ret
              exact ⟨rfl, B7.out⟩
            · obtain ⟨k, hkC, hdo, heq, hkc, hfz⟩ := HF2.out hm0 (by omega)
              obtain ⟨e1, e2, e3, e4⟩ := diag_some hdo
              have hW : wrongL (List.replicate N 0) (effL C T m N) = effL C T m N := by have := wrong_zeros (effL C T m N); rw [effL_length] at this; exact this
              rw [hW, hfz] at e2 e3
              have hD : (effL C T m N).getD (T + C) 0 = m := by
                rw [effL_getD C T m N _ (by omega), effN, if_neg (by omega), show T + C - T = C by omega]
                have : ∀ c, c < 7 → chN (c : Nat) c = 1 := by decide
                rw [this C (by omega), Int.mul_one]
              rw [hD] at e3
              rw [e1, e2, e3, e4]
              obtain ⟨q, hq⟩ : ∃ q : Nat, T + C = q + k := ⟨T + C - k, by omega⟩
              have hq2 : ((T + C : Nat) : Int) - (k : Int) = (q : Int) := by omega
              rw [hq2]
              have hokq : effOk (k : Int) (q : Int) m (N : Int) = true := effOk_of (by omega) (by omega) (by omega) (by omega) ⟨m1, m2⟩ (by omega) (by omega)
              have hEq : effA (k : Int) (q : Int) m (N : Int) = effL C T m N := by
                rw [effA, hokq, if_pos rfl, Int.toNat_natCast, Int.toNat_natCast, Int.toNat_natCast, ← heq, show T + C - k = q by omega]
              have HI := hidH (slipE_any (k : Int) (q : Int) m (N : Int) w7)
              rw [hEq, hokq] at HI
              have hsum : ((k : Int) + (q : Int) == (C : Int) + (T : Int)) = true := beq_iff_eq.2 (by omega)
              have hsum2 : (k : Int) + (q : Int) = (C : Int) + (T : Int) := by omega
              have hkc1 : (k : Int) ≤ (C : Int) := by omega
              have HKC := hidH hkc
              have htc1 : ¬ ((N : Int) ≤ (T : Int) + (C : Int)) := by omega
              have hll := effL_length C T m N
              generalize effL C T m N = E at *
              clear hm0 e1 e2 e3 e4 hW hD hq2 hokq hEq heq hkc hfz hdo hll
              go_wp2_with fail
              refine HI.out.mono ?_; rintro e w8 ⟨s, rfl, hr, hb⟩
              have B8 := hidH (B7.out.trans (hb.mono B7.out.size))
              have V8 := hidH (V7.out.below hb)
              have S8 := hidH hr
              clear hb hr V7 HI
              by_cases hlast : (N : Int) ≤ (T : Int) + (C : Int) + 1
              · go_wp2_with fail
                refine (deInts_yes s v E _ _ _ _ _ S8.out.lies V8.out.lies).mono ?_; rintro e w9 ⟨rfl, hb⟩
                have B9 := hidH (B8.out.trans (hb.mono B8.out.size))
                clear hb
                go_wp2_with fail
                go_ret
                exact ⟨rfl, B9.out⟩
              · have hkeq : k = C := HKC.out (by omega)
                subst hkeq
                go_wp2_with fail
                refine (deInts_yes s v E _ _ _ _ _ S8.out.lies V8.out.lies).mono ?_; rintro e w9 ⟨rfl, hb⟩
                have B9 := hidH (B8.out.trans (hb.mono B8.out.size))
                clear hb
                go_wp2_with fail
                go_ret
                exact ⟨rfl, B9.out⟩
end Go.Proofs.Ytojpnlipfbahdaa
