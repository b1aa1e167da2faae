/-
  The walk of a law: the numbers of a pattern add up to nothing, begin with the amount, and are the same backwards but for signs. No conditions but that the bytes that came in can be read.
-/
import Derived.Test.YtgicnfioojcbpaaErrKa
import Derived.Test.YtgicnfioojcbpaaErrB
import Derived.Test.YtgicnfioojcbpaaDeFns
namespace Go.Proofs.Ytgicnfioojcbpaa
set_option maxRecDepth 4000
open Go.RowKit
theorem drewN_add (w : World) (a b : Nat) : (w.drewN a).drewN b = w.drewN (a + b) := by simp [World.drewN, Nat.add_assoc]
/-- The sum of the first k numbers of a pattern of the amount 1. -/
def sumP (o : Nat) : Nat → Int
  | 0 => 0
  | k + 1 => sumP o k + sg k * chN (o : Nat) k
theorem sumP_end : ∀ o, o < 8 → (o = 0 → sumP o (o + 1) = 1) ∧ (0 < o → sumP o (o + 1) = 0) := by decide
theorem sumP_bd : ∀ o, o < 8 → ∀ k, k < 9 → -200 ≤ sumP o k ∧ sumP o k ≤ 200 := by decide
theorem chN_back : ∀ o, o < 8 → ∀ k, k ≤ o → chN (o : Nat) k = chN (o : Nat) (o - k) := by decide
theorem pat_back (o : Nat) (ho : o ≤ 7) (k : Nat) (hk : k ≤ o) (a : Int) : sg k * chN (o : Nat) k * a = sg (o - k) * chN (o : Nat) (o - k) * a ∨ sg k * chN (o : Nat) k * a = -(sg (o - k) * chN (o : Nat) (o - k) * a) := by
  rw [chN_back o (by omega) k hk]
  rcases sg_abs k with e | e <;> rcases sg_abs (o - k) with f | f <;> rw [e, f] <;> simp [Int.neg_mul]
set_option maxHeartbeats 2000000 in
theorem lawPatternSum (a : Option Addr) (len cap : Nat) (w : World) (hc : Came w a len cap) : Calls Try.prog 5 #[.slice a len cap] w (Gives (.bool true) w) := by
  have hcap := hc.lenLe
  have hcap2 := hc.capLe
  unfold maxLen at hcap2
  by_cases hbig : 1048576 < len
  · clear hc
    go_enter Try.func5, Try.ntmps5
    go_wp2
    go_ret
    exact ⟨rfl, Below.refl _ _⟩
  · have HD := hidH (drawErrorPattern a len cap w hc (by omega))
    clear hc
    go_enter Try.func5, Try.ntmps5
    go_wp2_with fail
    refine HD.out.mono ?_
    rintro e w1 ⟨o0, m, rfl, hB⟩
    have B1 := hidH hB
    have C1 := hidH (Below.refl w1.heap.size w1)
    clear hB HD
    go_wp2_with fail
    refine (pattern_any o0 m w1).mono ?_; rintro e w2 ⟨v, rfl, hr, hb⟩
    have B2 := hidH (B1.out.trans (hb.mono B1.out.size))
    have C2 := hidH (C1.out.trans (hb.mono C1.out.size))
    have V_2 := hidH hr
    clear hb hr B1 C1 
    go_wp2_with fail
    refine (sPattern_any o0 m w2).mono ?_; rintro e w3 ⟨u, rfl, hr, hb⟩
    have B3 := hidH (B2.out.trans (hb.mono B2.out.size))
    have C3 := hidH (C2.out.trans (hb.mono C2.out.size))
    have V_3 := hidH (V_2.out.below hb)
    have U_3 := hidH hr
    clear hb hr B2 C2 V_2
    go_wp2_with fail
    refine (deInts_yes v u (patA o0 m) _ _ _ _ _ V_3.out.lies U_3.out.lies).mono ?_; rintro e w4 ⟨rfl, hb⟩
    have B4 := hidH (B3.out.trans (hb.mono B3.out.size))
    have C4 := hidH (C3.out.trans (hb.mono C3.out.size))
    have V_4 := hidH (V_3.out.below hb)
    have U_4 := hidH (U_3.out.below hb)
    clear hb B3 C3 V_3 U_3
    clear U_4
    cases hok : (patOk o0 m && inB 1000000000 m)
    · have hE : patA o0 m = [] := by rw [patA, hok]; rfl
      rw [hE] at V_4
      obtain ⟨av, cv, rfl, hlv, hcv, _, _⟩ := V_4.out.lies
      have HL := hidH V_4.out
      clear hok V_4
      have HVL := hidH HL.out
      have HE := hidH hE
      clear hE
      go_wp2_with fail
      refine (sPattern_any o0 m w4).mono ?_; rintro e w5 ⟨u, rfl, hr, hb⟩
      have CQ := hidH hb
      have B5 := hidH (B4.out.trans (hb.mono B4.out.size))
      have C5 := hidH (C4.out.trans (hb.mono C4.out.size))
      have U_5 := hidH hr
      clear hb hr B4 C4 
      rw [HE.out] at U_5
      go_wp2_with fail
      refine (deInts_yes _ u [] _ _ _ _ _ (HVL.out.lies.below (show Below w4.heap.size w4 w5 from CQ.out)) U_5.out.lies).mono ?_; rintro e w6 ⟨rfl, hb⟩
      have B6 := hidH (B5.out.trans (hb.mono B5.out.size))
      have C6 := hidH (C5.out.trans (hb.mono C5.out.size))
      have U_6 := hidH (U_5.out.below hb)
      clear hb B5 C5 U_5
      go_wp2_with fail
      go_ret
      exact ⟨rfl, B6.out⟩
    · have h' := hok
      simp only [Bool.and_eq_true] at h'
      have ⟨o1, o7⟩ := of_decide_eq_true h'.1
      have ⟨m1, m2⟩ := of_decide_eq_true h'.2
      have hE : patA o0 m = patL o0.toNat m := by rw [patA, hok]; rfl
      rw [hE] at V_4
      obtain ⟨o, rfl⟩ := Int.eq_ofNat_of_zero_le o1
      rw [Int.toNat_natCast] at V_4
      have HLL := hidH (patL_length o m)
      obtain ⟨bv, ov, cv, rfl, hlv, hcv, _, _, _, hcell⟩ := V_4.out.lies.addr (by rw [HLL.out]; omega)
      have HCV := hidH hcell
      rw [HLL.out] at hlv ⊢
      unfold maxLen at hcv
      clear hok h' hE hcell V_4
      have hnz : ((o : Int) + 1 == 0) = false := beq_eq_false_iff_ne.2 (by omega)
      go_wp2_with fail
      go_loopw [6, 7] (fun s i wr => ∃ (j q : Nat) (S : Int), j ≤ o + 1 ∧ i = .int .i64 j ∧ s = .int .i64 S ∧ S = sumP o j * m ∧ wr = w4.drewN q) (fun _ i _ => o + 1 - (intOf i).toNat)
      case atStart => exact ⟨0, 0, 0, Nat.zero_le _, rfl, rfl, by simp [sumP], rfl⟩
      case round =>
        obtain ⟨j, q, S, hj, rfl, rfl, hS, rfl⟩ := hrel
        have ⟨p1, p2⟩ := sumP_bd o (by omega) j (by omega)
        have hSb := abs_mul_le (a := sumP o j) (b := m) (A := 200) (B := 1000000000) (by omega) (by omega)
        rw [← hS] at hSb
        have s1 : -200000000000 ≤ S := by omega
        have s2 : S ≤ 200000000000 := by omega
        have HS := hidH hS
        clear hS hSb p1 p2
        by_cases hlt : j < o + 1
        · have hcz := HCV.out j _ (patL_get o m j (by omega))
          have hcy := HCV.out (o - j) _ (patL_get o m (o - j) (by omega))
          have HSN := hidH (show S + sg j * chN (o : Nat) j * m = sumP o (j + 1) * m by rw [sumP, Int.add_mul, ← HS.out])
          have hxy := pat_back o (by omega) j (by omega) m
          have hxb := pat_bd o (by omega) j (by omega) m 1000000000 (by omega)
          have hyb := pat_bd o (by omega) (o - j) (by omega) m 1000000000 (by omega)
          obtain ⟨i2, hi2⟩ : ∃ i2, o - j = i2 := ⟨_, rfl⟩
          rw [hi2] at hcy hxy hyb
          have hw1 : IntKind.i64.wrap ((o : Int) + 1 - 1) = (o : Int) := by rw [IntWalk.i64_in _ (by omega)]; omega
          have hw2 : IntKind.i64.wrap (o : Int) = (o : Int) := IntWalk.i64_in _ (by omega)
          have hw3 : IntKind.i64.wrap ((o : Int) - (j : Int)) = (i2 : Int) := by rw [IntWalk.i64_in _ (by omega)]; omega
          have hi2o : (i2 : Int) < (o : Int) + 1 := by omega
          have hi2n : i2 < o + 1 := by omega
          have hjo : (j : Int) < (o : Int) + 1 := by omega
          generalize sg j * chN (o : Nat) j * m = x at *
          generalize sg i2 * chN (o : Nat) i2 * m = y at *
          have x1 : -35000000000 ≤ x := by omega
          have x2 : x ≤ 35000000000 := by omega
          have y1 : -35000000000 ≤ y := by omega
          have y2 : y ≤ 35000000000 := by omega
          have hwy : IntKind.i64.wrap (-y) = -y := IntWalk.i64_in _ (by omega)
          clear hxb hyb hi2
          by_cases he : x = y
          · subst he
            clear hxy
            go_wp2_with fail
            go_quiet (fail)
            go_wp2_with fail
            go_roundw
            case rel => exact ⟨j + 1, _, S + x, by omega, by go_num, by go_num, HSN.out, by first | rfl | exact drewN_add _ _ _⟩
            case measure => simp [intOf]; omega
          · have hxn : x = -y := by rcases hxy with h | h; exact absurd h he; exact h
            have hb1 : (x != y) = true := bne_iff_ne.2 he
            have hb2 : (x == y) = false := beq_eq_false_iff_ne.2 he
            have hb3 : (x != -y) = false := by rw [hxn]; exact bne_self_eq_false _
            have hb4 : (x == -y) = true := by rw [hxn]; exact beq_self_eq_true _
            clear hxy he hxn
            go_wp2_with fail
            go_quiet (fail)
            go_wp2_with fail
            go_roundw
            case rel => exact ⟨j + 1, _, S + x, by omega, by go_num, by go_num, HSN.out, by first | rfl | exact drewN_add _ _ _⟩
            case measure => simp [intOf]; omega
        · obtain rfl : j = o + 1 := by omega
          have hc0 := HCV.out 0 _ (patL_get o m 0 (Nat.zero_le _))
          rw [show sg 0 * chN (o : Nat) 0 * m = m by simp [sg, chN], Nat.add_zero] at hc0
          have hix : 0 < o + 1 := by omega
          have ⟨se0, se1⟩ := sumP_end o (by omega)
          by_cases ho0 : o = 0
          · have hsm : S = m := by rw [HS.out, se0 ho0, Int.one_mul]
            subst ho0
            subst hsm
            clear se0 se1
            go_wp2_with fail
            go_ret
            exact ⟨rfl, below_drewN B4.out q⟩
          · have hsm : S = 0 := by rw [HS.out, se1 (by omega), Int.zero_mul]
            subst hsm
            have ho1 : 0 < (o : Int) := by omega
            have ho2 : ((o : Int) == 0) = false := beq_eq_false_iff_ne.2 (by omega)
            clear se0 se1
            go_wp2_with fail
            go_ret
            exact ⟨rfl, below_drewN B4.out q⟩
end Go.Proofs.Ytgicnfioojcbpaa
