/-
  The walk of a law: every m-th value, and the values backwards, are those of polynomials. No conditions but that the bytes that came in can be read.
-/
import Derived.Test.YtgenniaklpheoaaKitR
import Derived.Test.YtgenniaklpheoaaDeFns
import Derived.Test.YtgenniaklpheoaaPolyAl
namespace Go.Proofs.Ytgenniaklpheoaa
open Go.RowKit
theorem step_told (zs : List Int) (m : Int) (h : stepB zs m = true) : 1 ≤ m ∧ m ≤ 10 ∧ (∀ n, -8 ≤ n → n ≤ 8 → evA (stepA zs m) n = evA zs (m * n)) ∧ (m = 1 → stepA zs m = zs) := by
  rcases step_ways zs m with ⟨_, hz, m1, m2, hq, e⟩ | h2
  · rw [e]
    refine ⟨m1, m2, fun n n1 n2 => step_val zs m n hz hq m1 m2 n1 n2, fun h1 => ?_⟩
    subst h1
    exact every_one zs (Small.ofOk hz)
  · rw [h] at h2; cases h2
theorem turn_told (zs : List Int) (h : turnB zs = true) : (∀ n, -8 ≤ n → n ≤ 8 → evA (turnA zs) n = evA zs (-n)) ∧ turnA (turnA zs) = zs ∧ turnB (turnA zs) = true := by
  rcases turn_ways zs with ⟨_, hz, hq, e⟩ | h2
  · rw [e]
    exact ⟨fun n n1 n2 => turn_val zs n hz hq n1 n2, turn_back zs hz hq⟩
  · rw [h] at h2; cases h2
theorem mul_in (m n : Int) (m1 : 1 ≤ m) (m2 : m ≤ 10) (n1 : -8 ≤ n) (n2 : n ≤ 8) : IntKind.i64.wrap (m * n) = m * n := by
  have hb : (m * n).natAbs ≤ 10 * 8 := by rw [Int.natAbs_mul]; exact Nat.mul_le_mul (show m.natAbs ≤ 10 by omega) (show n.natAbs ≤ 8 by omega)
  exact IntWalk.i64_in _ (by omega)
set_option maxHeartbeats 2000000 in
theorem lawStepTurn (a : Option Addr) (len cap : Nat) (w : World) (hc : Came w a len cap) : Calls Try.prog 5 #[.slice a len cap] w (Gives (.bool true) w) := by
  have hcap := hc.lenLe
  have hcap2 := hc.capLe
  unfold maxLen at hcap2
  by_cases hbig : 1048576 < len
  · clear hc
    go_enter Try.func5, Try.ntmps5
    go_wp2
    go_ret
    exact ⟨rfl, Below.refl _ _⟩
  · have HD := hidH (drawStepPoly a len cap w hc (by omega))
    clear hc
    go_enter Try.func5, Try.ntmps5
    go_wp2_with fail
    refine HD.out.mono ?_
    rintro e w1 ⟨v, zs, m, rfl, hrow, h8, hB⟩
    have LP := hidH hrow.lies
    have B1 := hidH hB
    clear hrow hB HD
    go_wp2_with fail
    refine (step_any v zs m w1 _ _ LP.out).mono ?_; rintro e w2 ⟨q, rfl, hq, hb⟩
    have LP2 := hidH (LP.out.below hb)
    have RQ2 := hidH hq
    have B2 := hidH (B1.out.trans (hb.mono B1.out.size))
    clear hb hq LP B1
    go_wp2_with fail
    refine (sStep_any v zs m w2 _ _ LP2.out).mono ?_; rintro e w3 ⟨u, rfl, hq, hb⟩
    have LP3 := hidH (LP2.out.below hb)
    have RQ3 := hidH (RQ2.out.below hb)
    have RU3 := hidH hq
    have B3 := hidH (B2.out.trans (hb.mono B2.out.size))
    clear hb hq LP2 RQ2 B2
    go_wp2_with fail
    refine (turn_any v zs w3 _ _ LP3.out).mono ?_; rintro e w4 ⟨r, rfl, hq, hb⟩
    have LP4 := hidH (LP3.out.below hb)
    have RQ4 := hidH (RQ3.out.below hb)
    have RU4 := hidH (RU3.out.below hb)
    have RR4 := hidH hq
    have B4 := hidH (B3.out.trans (hb.mono B3.out.size))
    clear hb hq LP3 RQ3 RU3 B3
    go_wp2_with fail
    refine (sTurn_any v zs w4 _ _ LP4.out).mono ?_; rintro e w5 ⟨ru, rfl, hq, hb⟩
    have LP5 := hidH (LP4.out.below hb)
    have RQ5 := hidH (RQ4.out.below hb)
    have RU5 := hidH (RU4.out.below hb)
    have RR5 := hidH (RR4.out.below hb)
    have RV5 := hidH hq
    have B5 := hidH (B4.out.trans (hb.mono B4.out.size))
    clear hb hq LP4 RQ4 RU4 RR4 B4
    have HST := hidH (step_told zs m)
    have HTT := hidH (turn_told zs)
    generalize stepA zs m = Q at *
    generalize stepB zs m = sb at *
    generalize turnB zs = tb at *
    generalize turnA zs = R at *
    have hsb : (sb != sb) = false := by simp
    have htb : (tb != tb) = false := by simp
    go_wp2_with fail
    refine (deInts_yes q u Q w5 _ _ _ _ RQ5.out.lies RU5.out.lies).mono ?_; rintro e w6 ⟨rfl, hb⟩
    have LP6 := hidH (LP5.out.below hb)
    have RQ6 := hidH (RQ5.out.below hb)
    have RR6 := hidH (RR5.out.below hb)
    have RV6 := hidH (RV5.out.below hb)
    have B6 := hidH (B5.out.trans (hb.mono B5.out.size))
    clear hb LP5 RQ5 RU5 RR5 RV5 B5
    go_wp2_with fail
    refine (deInts_yes r ru R w6 _ _ _ _ RR6.out.lies RV6.out.lies).mono ?_; rintro e w7 ⟨rfl, hb⟩
    have LP7 := hidH (LP6.out.below hb)
    have RQ7 := hidH (RQ6.out.below hb)
    have RR7 := hidH (RR6.out.below hb)
    have B7 := hidH (B6.out.trans (hb.mono B6.out.size))
    clear hb LP6 RQ6 RR6 RV6 B6
    have HEP := hidH fun (W : World) (j : Int) (hb : Below w7.heap.size w7 W) => (at_any v zs j W _ _ (LP7.out.below hb)).mono fun e w' (h : Gives _ W e w') => (⟨h.1, hb.trans (h.2.mono hb.size)⟩ : e = .returned (.int .i64 (evA zs j)) ∧ Below w7.heap.size w7 w')
    have HEQ := hidH fun (W : World) (j : Int) (hb : Below w7.heap.size w7 W) => (at_any q Q j W _ _ ((RQ7.out.below hb).lies)).mono fun e w' (h : Gives _ W e w') => (⟨h.1, hb.trans (h.2.mono hb.size)⟩ : e = .returned (.int .i64 (evA Q j)) ∧ Below w7.heap.size w7 w')
    have HER := hidH fun (W : World) (j : Int) (hb : Below w7.heap.size w7 W) => (at_any r R j W _ _ ((RR7.out.below hb).lies)).mono fun e w' (h : Gives _ W e w') => (⟨h.1, hb.trans (h.2.mono hb.size)⟩ : e = .returned (.int .i64 (evA R j)) ∧ Below w7.heap.size w7 w')
    go_wp2_with fail
    go_loopw [13] (fun i wr => ∃ n : Int, -8 ≤ n ∧ n ≤ 9 ∧ i = .int .i64 n ∧ Below w7.heap.size w7 wr) (fun i _ => (9 - intOf i).toNat)
    case atStart => exact ⟨-8, by omega, by omega, rfl, Below.refl _ _⟩
    case round =>
      obtain ⟨n, hn, hk, rfl, hb⟩ := hrel
      have HBq := hidH hb
      clear hb
      by_cases hlt : n < 9
      · cases hs : sb
        · cases ht : tb
          · go_wp2_with fail
            go_roundw
            case rel => exact ⟨n + 1, by omega, by omega, rfl, HBq.out⟩
            case measure => simp [intOf]; omega
          · have hy := (HTT.out ht).1 n hn (by omega)
            generalize hz : evA zs (-n) = y at *
            have HZ := hidH hz
            have HY := hidH hy
            clear hz hy
            go_wp2_with fail
            refine (HER.out wr n HBq.out).mono ?_; rintro e w8 ⟨rfl, hb⟩
            have HB8 := hidH hb
            rw [HY.out]
            clear hb
            go_wp2_with fail
            refine (HEP.out w8 (-n) HB8.out).mono ?_; rintro e w9 ⟨rfl, hb⟩
            have HB9 := hidH hb
            rw [HZ.out]
            clear hb
            go_wp2_with fail
            go_roundw
            case rel => exact ⟨n + 1, by omega, by omega, rfl, HB9.out⟩
            case measure => simp [intOf]; omega
        · have ⟨m1, m2, hsv, _⟩ := HST.out hs
          have hx := hsv n hn (by omega)
          have v1 := mul_in m n m1 m2 hn (by omega)
          generalize hz : evA zs (m * n) = x at *
          have HMZ := hidH hz
          have HX := hidH hx
          clear hz hx hsv
          cases ht : tb
          · go_wp2_with fail
            refine (HEQ.out wr n HBq.out).mono ?_; rintro e w8 ⟨rfl, hb⟩
            have HB8 := hidH hb
            rw [HX.out]
            clear hb
            go_wp2_with fail
            refine (HEP.out w8 (m * n) HB8.out).mono ?_; rintro e w9 ⟨rfl, hb⟩
            have HB9 := hidH hb
            rw [HMZ.out]
            clear hb
            go_wp2_with fail
            go_roundw
            case rel => exact ⟨n + 1, by omega, by omega, rfl, HB9.out⟩
            case measure => simp [intOf]; omega
          · have hy := (HTT.out ht).1 n hn (by omega)
            generalize hz : evA zs (-n) = y at *
            have HZ := hidH hz
            have HY := hidH hy
            clear hz hy
            go_wp2_with fail
            refine (HEQ.out wr n HBq.out).mono ?_; rintro e w8 ⟨rfl, hb⟩
            have HB8 := hidH hb
            rw [HX.out]
            clear hb
            go_wp2_with fail
            refine (HEP.out w8 (m * n) HB8.out).mono ?_; rintro e w9 ⟨rfl, hb⟩
            have HB9 := hidH hb
            rw [HMZ.out]
            clear hb
            go_wp2_with fail
            refine (HER.out w9 n HB9.out).mono ?_; rintro e w10 ⟨rfl, hb⟩
            have HB10 := hidH hb
            rw [HY.out]
            clear hb
            go_wp2_with fail
            refine (HEP.out w10 (-n) HB10.out).mono ?_; rintro e w11 ⟨rfl, hb⟩
            have HB11 := hidH hb
            rw [HZ.out]
            clear hb
            go_wp2_with fail
            go_roundw
            case rel => exact ⟨n + 1, by omega, by omega, rfl, HB11.out⟩
            case measure => simp [intOf]; omega
      · obtain rfl : n = 9 := by omega
        cases ht : tb
        · go_wp2_with fail
          go_ret
          exact ⟨rfl, B7.out.trans (HBq.out.mono B7.out.size)⟩
        · have HB2 := hidH (HTT.out ht).2
          go_wp2_with fail
          refine (turn_any r R wr _ _ (RR7.out.below HBq.out).lies).mono ?_; rintro e w8 ⟨bk, rfl, hr, hb⟩
          rw [HB2.out.1] at hr
          rw [HB2.out.2]
          have RB8 := hidH hr
          have HB8 := hidH (HBq.out.trans (hb.mono HBq.out.size))
          clear hb hr
          go_wp2_with fail
          refine (deInts_yes bk v zs w8 _ _ _ _ RB8.out.lies (LP7.out.below HB8.out)).mono ?_; rintro e w9 ⟨rfl, hb⟩
          have HB9 := hidH (HB8.out.trans (hb.mono HB8.out.size))
          clear hb
          cases hs : sb
          · go_wp2_with fail
            go_ret
            exact ⟨rfl, B7.out.trans (HB9.out.mono B7.out.size)⟩
          · have ⟨m1, m2, _, hq1⟩ := HST.out hs
            by_cases hm1 : 1 < m
            · go_wp2_with fail
              go_ret
              exact ⟨rfl, B7.out.trans (HB9.out.mono B7.out.size)⟩
            · have HQZ := hidH (hq1 (by omega))
              clear hq1
              go_wp2_with fail
              refine (deInts_yes q v zs w9 _ _ _ _ (by have h := RQ7.out.below HB9.out; rw [HQZ.out] at h; exact h.lies) (LP7.out.below HB9.out)).mono ?_; rintro e w10 ⟨rfl, hb⟩
              have HB10 := hidH (HB9.out.trans (hb.mono HB9.out.size))
              clear hb
              go_wp2_with fail
              go_ret
              exact ⟨rfl, B7.out.trans (HB10.out.mono B7.out.size)⟩
end Go.Proofs.Ytgenniaklpheoaa
