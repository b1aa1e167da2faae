/-
  The walk of the law of DealTable. No conditions but that slices fit in memory.
-/
import Derived.Test.YthinpmhoklehaaaHouD
import Derived.Test.YthinpmhoklehaaaHouF
import Derived.Test.YthinpmhoklehaaaKitW
import Derived.Test.YthinpmhoklehaaaBox
import Derived.Test.YthinpmhoklehaaaDeFns
namespace Go.Proofs.Ythinpmhoklehaaa
set_option maxRecDepth 4000
open Go.RowKit
theorem ev_len2 (a b : List Int) (h : ilOk a b = true) : evL (ilL a b) = a ∧ odL (ilL a b) = b := by
  have ⟨hd, h60⟩ := of_decide_eq_true h
  have hl := ilL_length a b
  constructor
  · apply List.ext_getElem?
    intro j
    by_cases hj : j < a.length
    · obtain ⟨z, hz⟩ := get_lt a j hj
      have h1 := evL_get (ilL a b) (2 * j) z (ilL_even a b j z hz (by omega)) (by omega)
      rw [show (2 * j + 1) / 2 = j by omega] at h1
      rw [h1, hz]
    · rw [List.getElem?_eq_none (by rw [evL_length]; omega), List.getElem?_eq_none (by omega)]
  · apply List.ext_getElem?
    intro j
    by_cases hj : j < b.length
    · obtain ⟨z, hz⟩ := get_lt b j hj
      have h1 := odL_get (ilL a b) (2 * j + 1) z (ilL_odd a b j z hz (by omega)) (by omega)
      rw [show (2 * j + 1) / 2 = j by omega] at h1
      rw [h1, hz]
    · rw [List.getElem?_eq_none (by rw [odL_length]; omega), List.getElem?_eq_none (by omega)]
theorem il_dealt (zs : List Int) (h : zs.length ≤ 60) : ilOk (evL zs) (odL zs) = true ∧ ilL (evL zs) (odL zs) = zs := by
  have h1 := evL_length zs
  have h2 := odL_length zs
  refine ⟨decide_eq_true (by omega), ?_⟩
  apply List.ext_getElem?
  intro j
  by_cases hj : j < zs.length
  · obtain ⟨z, hz⟩ := get_lt zs j hj
    rw [hz]
    by_cases hp : j % 2 = 0
    · have := ilL_even (evL zs) (odL zs) (j / 2) z (by have := evL_get zs j z hz hp; rwa [show (j + 1) / 2 = j / 2 by omega] at this) (by omega)
      rwa [show 2 * (j / 2) = j by omega] at this
    · have := ilL_odd (evL zs) (odL zs) (j / 2) z (odL_get zs j z hz (by omega)) (by omega)
      rwa [show 2 * (j / 2) + 1 = j by omega] at this
  · rw [List.getElem?_eq_none (by rw [ilL_length]; omega), List.getElem?_eq_none (by omega)]
theorem dl_if (zs : List Int) (h : zs.length ≤ 60) : dlE zs = evL zs ∧ dlO zs = odL zs := ⟨if_pos h, if_pos h⟩
theorem drawDealTable (a : Option Addr) (len cap : Nat) (w : World) (hc : Came w a len cap) (hl : len ≤ 1048576) : Calls Try.prog 13 #[.slice a len cap] w (DrawT1 w) := by
  have HD := hidH (drawTableValid a len cap w hc hl)
  go_enter Try.func13, Try.ntmps13
  go_wp2_with fail
  refine HD.out.mono ?_; rintro e w1 ⟨v, zs, rfl, hr, h61, hb⟩
  go_wp2_with fail
  go_ret
  exact ⟨v, zs, rfl, hr, h61, hb⟩
set_option maxHeartbeats 1600000 in
theorem lawDeal (a : Option Addr) (len cap : Nat) (w : World) (hc : Came w a len cap) : Calls Try.prog 4 #[.slice a len cap] w (Gives (.bool true) w) := by
  have HC := hidH hc
  have hc1 := hc.lenLe
  have hc2 := hc.capLe
  unfold maxLen at hc2
  by_cases hbig : 1048576 < len
  · go_enter Try.func4, Try.ntmps4
    go_wp2
    go_ret
    exact ⟨rfl, Below.refl _ _⟩
  have hsm : len ≤ 1048576 := by omega
  clear hbig hc
  go_enter Try.func4, Try.ntmps4
  have B0 := hidH (Below.refl w.heap.size w)
  go_wp2_with fail
  refine (drawDealTable a len cap _ HC.out hsm).mono ?_; rintro e w1 ⟨v, zs, rfl, hr, h61, hb⟩
  have B1 := hidH (bThen B0.out hb)
  have s1 := hb.size
  have Z_1 := hidH hr
  clear hb B0  hr
  obtain ⟨za, zcap, rfl, zc1, zc2, _⟩ := Z_1.out.lies
  unfold maxLen at zc2
  have HLE := hidH (dlE_len zs)
  have HLO := hidH (dlO_len zs)
  go_wp2_with fail
  refine (deal_any _ zs _ _ _ Z_1.out.lies).mono ?_; rintro e w2 ⟨g0, g1, rfl, hrr, hb⟩
  obtain ⟨lG0, hG0, lG1, hG1, hr0, hr1, qG0, qG1, qG2, qG3, qG4⟩ := hrr
  have B2 := hidH (bThen B1.out hb)
  have s2 := hb.size
  have Z_2 := hidH (Z_1.out.below hb)
  have G0_2 := hidH hr0
  have G1_2 := hidH hr1
  clear hb B1 Z_1 hr0 hr1
  go_wp2_with fail
  refine (sDeal_any _ zs _ _ _ Z_2.out.lies).mono ?_; rintro e w3 ⟨u0, u1, rfl, hrr, hb⟩
  obtain ⟨lU0, hU0, lU1, hU1, hr0, hr1, qU0, qU1, qU2, qU3, qU4⟩ := hrr
  have B3 := hidH (bThen B2.out hb)
  have s3 := hb.size
  have Z_3 := hidH (Z_2.out.below hb)
  have G0_3 := hidH (G0_2.out.below hb)
  have G1_3 := hidH (G1_2.out.below hb)
  have U0_3 := hidH hr0
  have U1_3 := hidH hr1
  clear hb B2 Z_2 G0_2 G1_2 hr0 hr1
  go_wp2_with fail
  refine (deInts_yes _ _ _ _ _ _ _ _ G0_3.out.lies U0_3.out.lies).mono ?_; rintro e w4 ⟨rfl, hb⟩
  have B4 := hidH (bThen B3.out hb)
  have s4 := hb.size
  have Z_4 := hidH (Z_3.out.below hb)
  have G0_4 := hidH (G0_3.out.below hb)
  have G1_4 := hidH (G1_3.out.below hb)
  have U0_4 := hidH (U0_3.out.below hb)
  have U1_4 := hidH (U1_3.out.below hb)
  clear hb B3 Z_3 G0_3 G1_3 U0_3 U1_3
  go_wp2_with fail
  refine (deInts_yes _ _ _ _ _ _ _ _ G1_4.out.lies U1_4.out.lies).mono ?_; rintro e w5 ⟨rfl, hb⟩
  have B5 := hidH (bThen B4.out hb)
  have s5 := hb.size
  have Z_5 := hidH (Z_4.out.below hb)
  have G0_5 := hidH (G0_4.out.below hb)
  have G1_5 := hidH (G1_4.out.below hb)
  have U0_5 := hidH (U0_4.out.below hb)
  have U1_5 := hidH (U1_4.out.below hb)
  clear hb B4 Z_4 G0_4 G1_4 U0_4 U1_4
  by_cases h60 : zs.length ≤ 60
  · have ⟨e1, e2⟩ := dl_if zs h60
    have ⟨e3, e4⟩ := il_dealt zs h60
    rw [e1] at G0_5 U0_5
    rw [e2] at G1_5 U1_5
    have HL1 := hidH (evL_length zs)
    have HL2 := hidH (odL_length zs)
    have HE4 := hidH e4
    have HE3 := hidH e3
    clear e1 e2 e3 e4 HLE HLO
    obtain ⟨ga, gcap, rfl, gc1, gc2, _⟩ := G0_5.out.lies
    obtain ⟨gb, gcap1, rfl, gd1, gd2, _⟩ := G1_5.out.lies
    unfold maxLen at gc2 gd2
    clear U0_5
    clear U1_5
    go_wp2_with fail
    refine (ilv_any _ (evL zs) _ (odL zs) _ _ _ _ _ G0_5.out.lies G1_5.out.lies (by rw [HL1.out]; omega) (by rw [HL2.out]; omega)).mono ?_; rintro e w6 ⟨bk, rfl, hr, hb⟩
    rw [HE3.out]
    rw [ilA, HE3.out, if_pos rfl, HE4.out] at hr
    have B6 := hidH (bThen B5.out hb)
    have s6 := hb.size
    have Z_6 := hidH (Z_5.out.below hb)
    have G0_6 := hidH (G0_5.out.below hb)
    have G1_6 := hidH (G1_5.out.below hb)
    have K_6 := hidH hr
    clear hb B5 Z_5 G0_5 G1_5 hr
    go_wp2_with fail
    refine (deInts_yes _ _ _ _ _ _ _ _ K_6.out.lies Z_6.out.lies).mono ?_; rintro e w7 ⟨rfl, hb⟩
    have B7 := hidH (bThen B6.out hb)
    have s7 := hb.size
    have Z_7 := hidH (Z_6.out.below hb)
    have G0_7 := hidH (G0_6.out.below hb)
    have G1_7 := hidH (G1_6.out.below hb)
    have K_7 := hidH (K_6.out.below hb)
    clear hb B6 Z_6 G0_6 G1_6 K_6
    have hi : ((evL zs).length : Int) = ((odL zs).length : Int) ∨ ((evL zs).length : Int) = ((odL zs).length : Int) + 1 := by rw [HL1.out, HL2.out]; omega
    have hl1 : (evL zs).length ≤ 60 := by rw [HL1.out]; omega
    have hl2 : (odL zs).length ≤ 60 := by rw [HL2.out]; omega
    generalize (evL zs).length = m1 at *
    generalize (odL zs).length = m2 at *
    rcases hi with hi | hi
    · have e1 : ((m1 : Int) == (m2 : Int)) = true := beq_iff_eq.2 hi
      go_wp2_with fail
      go_ret
      exact ⟨rfl, B7.out⟩
    · have e1 : ((m1 : Int) == (m2 : Int)) = false := beq_eq_false_iff_ne.2 (by omega)
      have e2 : ((m1 : Int) == (m2 : Int) + 1) = true := beq_iff_eq.2 hi
      go_wp2_with fail
      go_ret
      exact ⟨rfl, B7.out⟩
  · have hgt : 60 < zs.length := by omega
    go_wp2_with fail
    refine (deInts_yes _ _ _ _ _ _ _ _ G0_5.out.lies U0_5.out.lies).mono ?_; rintro e w6 ⟨rfl, hb⟩
    have B6 := hidH (bThen B5.out hb)
    have s6 := hb.size
    have Z_6 := hidH (Z_5.out.below hb)
    have G0_6 := hidH (G0_5.out.below hb)
    have G1_6 := hidH (G1_5.out.below hb)
    have U0_6 := hidH (U0_5.out.below hb)
    have U1_6 := hidH (U1_5.out.below hb)
    clear hb B5 Z_5 G0_5 G1_5 U0_5 U1_5
    go_wp2_with fail
    refine (deInts_yes _ _ _ _ _ _ _ _ G1_6.out.lies U1_6.out.lies).mono ?_; rintro e w7 ⟨rfl, hb⟩
    have B7 := hidH (bThen B6.out hb)
    have s7 := hb.size
    have Z_7 := hidH (Z_6.out.below hb)
    have G0_7 := hidH (G0_6.out.below hb)
    have G1_7 := hidH (G1_6.out.below hb)
    have U0_7 := hidH (U0_6.out.below hb)
    have U1_7 := hidH (U1_6.out.below hb)
    clear hb B6 Z_6 G0_6 G1_6 U0_6 U1_6
    go_wp2_with fail
    go_ret
    exact ⟨rfl, B7.out⟩
end Go.Proofs.Ythinpmhoklehaaa
