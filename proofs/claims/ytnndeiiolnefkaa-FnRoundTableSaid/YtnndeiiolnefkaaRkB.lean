/-
  The walk of a law: a rounded number is near. No conditions but that the bytes that came in can be read.
-/
import Derived.Test.YtnndeiiolnefkaaRkA
import Derived.Test.YtnndeiiolnefkaaRndG
namespace Go.Proofs.Ytnndeiiolnefkaa
set_option maxRecDepth 4000
open Go.RowKit
theorem deTen_any (n : Nat) (hn : n ≤ 12) (w : World) : Calls Try.prog 13 #[.int .i64 n] w fun e w' => e = .returned (.int .i64 (tenP n)) ∧ w = w' := by
  go_enter Try.func13, Try.ntmps13
  go_wp2
  go_loop [3, 4] (fun p i => ∃ k : Nat, k ≤ n ∧ i = .int .i64 k ∧ p = .int .i64 (tenP k)) (fun _ i => n - (intOf i).toNat)
  case atStart => exact ⟨0, Nat.zero_le _, rfl, rfl⟩
  case round =>
    obtain ⟨k, hk, rfl, rfl⟩ := hrel
    have hp := tenP_pos k
    have hq := tenP_12 k (by omega)
    by_cases hlt : k < n
    · go_wp2
      go_round
      case rel => exact ⟨k + 1, by omega, by go_num, by rw [tenP, Int.mul_comm]⟩
      case measure => simp [intOf]; omega
    · go_wp2
      obtain rfl : k = n := by omega
      go_ret
      exact ⟨rfl, rfl⟩
set_option maxHeartbeats 2000000 in
theorem lawRoundBounds (a : Option Addr) (len cap : Nat) (w : World) (hc : Came w a len cap) : Calls Try.prog 3 #[.slice a len cap] w (Gives (.bool true) w) := by
  have hcap := hc.lenLe
  have hcap2 := hc.capLe
  unfold maxLen at hcap2
  by_cases hbig : 1048576 < len
  · clear hc
    go_enter Try.func3, Try.ntmps3
    go_wp2
    go_ret
    exact ⟨rfl, Below.refl _ _⟩
  · have HD := hidH (drawRoundEntry a len cap w hc (by omega))
    clear hc
    go_enter Try.func3, Try.ntmps3
    go_wp2_with fail
    refine HD.out.mono ?_
    rintro e w1 ⟨n, dg, way, rfl, dga, dgb, hb⟩
    have B1 := hidH hb
    have HI := hidH (fun W => roundEntry_any n dg way W)
    have HS := hidH (fun W => sRoundEntry_any n dg way W)
    clear hb HD
    cases hok : rndB n dg way
    · have hz : rndN n dg way = 0 := by unfold rndB at hok; unfold rndN; rw [hok]; rfl
      rw [hz, hok] at HI HS
      clear hz
      go_wp2_with fail
      refine (HI.out _).mono ?_; rintro e w2 ⟨rfl, hb⟩
      have B2 := hidH (bThen B1.out hb)
      clear hb
      go_wp2_with fail
      refine (HS.out _).mono ?_; rintro e w3 ⟨rfl, rfl⟩
      go_wp2_with fail
      go_ret
      exact ⟨rfl, B2.out⟩
    · have hr : rndN n dg way = rndI n (tenP dg.toNat) way := by unfold rndB at hok; unfold rndN; rw [hok]; rfl
      have hok2 := hok
      unfold rndB at hok2
      rw [Bool.and_eq_true] at hok2
      have ⟨n1, n2⟩ := of_decide_eq_true hok2.1
      obtain ⟨k, rfl, k6, y0, y2, hu⟩ := wayOk_parts hok2.2
      rw [Int.toNat_natCast] at hr
      rw [hr, hok] at HI HS
      have HT := hidH (fun W => deTen_any k (by omega) W)
      have HU := hidH hu
      have ⟨u1, u2⟩ := hu.bd
      have HWY := hidH hok2.2
      clear hok hok2 hr hu
      have ⟨p1, p2, p3, p4⟩ := rnd_prod n (tenP k) way HU.out n1 n2
      have hbd := rnd_bounds n (tenP k) way HU.out
      have hhf := rnd_half n (tenP k) way HU.out
      clear HWY
      generalize tenP k = u at *
      generalize rndI n u way = m at *
      have hw1 : wrap64 (m * u) = m * u := IntWalk.wrap64_in _ (by omega)
      have hw2 : IntKind.i64.wrap (m * u) = m * u := IntWalk.i64_in _ (by omega)
      have HD := hidH (show n - m * u = n - m * u from rfl)
      rcases (show way = 0 ∨ way = 1 ∨ way = 2 by omega) with rfl | rfl | rfl
      · have ⟨q1, q2⟩ := hbd.1 rfl
        clear hbd hhf
        go_wp2_with fail
        refine (HI.out _).mono ?_; rintro e w2 ⟨rfl, hb⟩
        have B2 := hidH (bThen B1.out hb)
        clear hb
        go_wp2_with fail
        refine (HS.out _).mono ?_; rintro e w3 ⟨rfl, rfl⟩
        go_wp2_with fail
        refine (HT.out _).mono ?_; rintro e w4 ⟨rfl, rfl⟩
        go_wp2_with fail
        go_ret
        exact ⟨by first | rfl | simp_all, B2.out⟩
      · have ⟨q1, q2⟩ := hbd.2 (by omega)
        by_cases e1 : 2 * (n - m * u) = u
        · have hf := hhf (by omega) (.inl e1)
          have g1 : (2 * (n - m * u) == u) = true := beq_iff_eq.2 e1
          have g2 : (2 * (n - m * u) == -u) = false := beq_eq_false_iff_ne.2 (by omega)
          have h0 := hf.2 rfl
          have h1 : n < 0 := by omega
          clear hf hhf hbd h0 e1
          go_wp2_with fail
          refine (HI.out _).mono ?_; rintro e w2 ⟨rfl, hb⟩
          have B2 := hidH (bThen B1.out hb)
          clear hb
          go_wp2_with fail
          refine (HS.out _).mono ?_; rintro e w3 ⟨rfl, rfl⟩
          go_wp2_with fail
          refine (HT.out _).mono ?_; rintro e w4 ⟨rfl, rfl⟩
          go_wp2_with fail
          go_ret
          exact ⟨by first | rfl | simp_all, B2.out⟩
        · have g1 : (2 * (n - m * u) == u) = false := beq_eq_false_iff_ne.2 e1
          by_cases e2 : 2 * (n - m * u) = -u
          · have hf := hhf (by omega) (.inr e2)
            have g2 : (2 * (n - m * u) == -u) = true := beq_iff_eq.2 e2
            have h0 := hf.2 rfl
            have h1 : 0 < n := by omega
            clear hf hhf hbd h0 e1 e2
            go_wp2_with fail
            refine (HI.out _).mono ?_; rintro e w2 ⟨rfl, hb⟩
            have B2 := hidH (bThen B1.out hb)
            clear hb
            go_wp2_with fail
            refine (HS.out _).mono ?_; rintro e w3 ⟨rfl, rfl⟩
            go_wp2_with fail
            refine (HT.out _).mono ?_; rintro e w4 ⟨rfl, rfl⟩
            go_wp2_with fail
            go_ret
            exact ⟨by first | rfl | simp_all, B2.out⟩
          · have g2 : (2 * (n - m * u) == -u) = false := beq_eq_false_iff_ne.2 e2
            clear hhf hbd e1 e2
            go_wp2_with fail
            refine (HI.out _).mono ?_; rintro e w2 ⟨rfl, hb⟩
            have B2 := hidH (bThen B1.out hb)
            clear hb
            go_wp2_with fail
            refine (HS.out _).mono ?_; rintro e w3 ⟨rfl, rfl⟩
            go_wp2_with fail
            refine (HT.out _).mono ?_; rintro e w4 ⟨rfl, rfl⟩
            go_wp2_with fail
            go_ret
            exact ⟨by first | rfl | simp_all, B2.out⟩
      · have ⟨q1, q2⟩ := hbd.2 (by omega)
        by_cases e1 : 2 * (n - m * u) = u
        · have hf := hhf (by omega) (.inl e1)
          have g1 : (2 * (n - m * u) == u) = true := beq_iff_eq.2 e1
          have g2 : (2 * (n - m * u) == -u) = false := beq_eq_false_iff_ne.2 (by omega)
          have h0 := hf.1 (by omega)
          have g3 : (m.tmod 2 == 0) = true := beq_iff_eq.2 ((tmod2 m).2 h0)
          have g4 := tmod_bd2 m
          clear hf hhf hbd h0 e1
          go_wp2_with fail
          refine (HI.out _).mono ?_; rintro e w2 ⟨rfl, hb⟩
          have B2 := hidH (bThen B1.out hb)
          clear hb
          go_wp2_with fail
          refine (HS.out _).mono ?_; rintro e w3 ⟨rfl, rfl⟩
          go_wp2_with fail
          refine (HT.out _).mono ?_; rintro e w4 ⟨rfl, rfl⟩
          go_wp2_with fail
          go_ret
          exact ⟨by first | rfl | simp_all, B2.out⟩
        · have g1 : (2 * (n - m * u) == u) = false := beq_eq_false_iff_ne.2 e1
          by_cases e2 : 2 * (n - m * u) = -u
          · have hf := hhf (by omega) (.inr e2)
            have g2 : (2 * (n - m * u) == -u) = true := beq_iff_eq.2 e2
            have h0 := hf.1 (by omega)
            have g3 : (m.tmod 2 == 0) = true := beq_iff_eq.2 ((tmod2 m).2 h0)
            have g4 := tmod_bd2 m
            clear hf hhf hbd h0 e1 e2
            go_wp2_with fail
            refine (HI.out _).mono ?_; rintro e w2 ⟨rfl, hb⟩
            have B2 := hidH (bThen B1.out hb)
            clear hb
            go_wp2_with fail
            refine (HS.out _).mono ?_; rintro e w3 ⟨rfl, rfl⟩
            go_wp2_with fail
            refine (HT.out _).mono ?_; rintro e w4 ⟨rfl, rfl⟩
            go_wp2_with fail
            go_ret
            exact ⟨by first | rfl | simp_all, B2.out⟩
          · have g2 : (2 * (n - m * u) == -u) = false := beq_eq_false_iff_ne.2 e2
            clear hhf hbd e1 e2
            go_wp2_with fail
            refine (HI.out _).mono ?_; rintro e w2 ⟨rfl, hb⟩
            have B2 := hidH (bThen B1.out hb)
            clear hb
            go_wp2_with fail
            refine (HS.out _).mono ?_; rintro e w3 ⟨rfl, rfl⟩
            go_wp2_with fail
            refine (HT.out _).mono ?_; rintro e w4 ⟨rfl, rfl⟩
            go_wp2_with fail
            go_ret
            exact ⟨by first | rfl | simp_all, B2.out⟩
end Go.Proofs.Ytnndeiiolnefkaa
