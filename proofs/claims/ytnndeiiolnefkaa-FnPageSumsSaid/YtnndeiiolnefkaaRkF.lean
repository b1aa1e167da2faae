/-
  The walks of laws: each entry has one place, and each place one entry. No conditions but that the bytes that came in can be read.
-/
import Derived.Test.YtnndeiiolnefkaaRkE
namespace Go.Proofs.Ytnndeiiolnefkaa
set_option maxRecDepth 4000
open Go.RowKit
theorem pl_all (R A W k : Int) (h : plB R A W k = true) : ixA R A W (plP R A W k) (plR R A W k) (plC R A W k) = k ∧ pagesA R A W (k + 1) = plP R A W k + 1 ∧ 0 ≤ plP R A W k ∧ plP R A W k ≤ 59 ∧ plR R A W k < R ∧ plC R A W k < A ∧ 0 ≤ k ∧ k ≤ 59 := by
  have ⟨hin, hs⟩ := inPl_of R A W _ _ _ k h rfl rfl rfl
  have h' := h
  unfold plB at h'
  rw [Bool.and_eq_true] at h'
  have ⟨k1, k2⟩ := of_decide_eq_true h'.2
  have ⟨⟨r1, r2⟩, ⟨a1, a2⟩, _⟩ := (layOk_iff R A W).1 h'.1
  have ⟨p1, p2, p3⟩ := places_bd R A r1 r2 a1 a2
  have hi := hin
  unfold inPl at hi
  rw [Bool.and_eq_true, Bool.and_eq_true, Bool.and_eq_true] at hi
  obtain ⟨_, hp, hr, hc⟩ := hi
  have hp := of_decide_eq_true hp
  have hr := of_decide_eq_true hr
  have hc := of_decide_eq_true hc
  refine ⟨?_, ?_, hp.1, hp.2, by omega, by omega, k1, k2⟩
  · unfold ixA
    rw [hin, if_pos rfl, hs, if_pos (by omega)]
  · unfold pagesA
    rw [h'.1, show cntOk6 (k + 1) = true from decide_eq_true (by omega), Bool.and_true, if_pos rfl, pages_last k (A * R) p1]
    unfold plP
    rw [h, if_pos rfl]
set_option maxHeartbeats 2000000 in
theorem lawPlace (a : Option Addr) (len cap : Nat) (w : World) (hc : Came w a len cap) : Calls Try.prog 7 #[.slice a len cap] w (Gives (.bool true) w) := by
  have hcap := hc.lenLe
  have hcap2 := hc.capLe
  unfold maxLen at hcap2
  by_cases hbig : 1048576 < len
  · clear hc
    go_enter Try.func7, Try.ntmps7
    go_wp2
    go_ret
    exact ⟨rfl, Below.refl _ _⟩
  · have HD := hidH (drawPlaceOf a len cap w hc (by omega))
    clear hc
    go_enter Try.func7, Try.ntmps7
    go_wp2_with fail
    refine HD.out.mono ?_
    rintro e w1 ⟨X, Y, Z, k, rfl, hb⟩
    have B1 := hidH (bMore hb (layC X Y Z))
    have L_1 := hidH (LayAt.fresh w1 X Y Z)
    clear hb HD
    have HI := hidH (fun W => placeOf_any X Y Z k W)
    have HS := hidH (fun W => sPlaceOf_any X Y Z k W)
    have HX := hidH (fun p r c W => indexOf_any X Y Z p r c W)
    have HP := hidH (fun c W => pagesNeeded_any X Y Z c W)
    have hall := pl_all X Y Z k
    unfold layV layC at *
    generalize plP X Y Z k = p at *
    generalize plR X Y Z k = r at *
    generalize plC X Y Z k = c at *
    generalize plB X Y Z k = b at *
    cases b
    · clear hall
      have c0 := L_1.out.cell0
      have c1 := L_1.out.cell1
      have c2 := L_1.out.cell2
      go_wp2_with fail
      refine (HI.out _).mono ?_; rintro e v2 ⟨rfl, hb⟩
      have B2 := hidH (bThen B1.out hb)
      have L_2 := hidH (L_1.out.below hb)
      clear hb c0 c1 c2 B1 L_1
      have c0 := L_2.out.cell0
      have c1 := L_2.out.cell1
      have c2 := L_2.out.cell2
      go_wp2_with fail
      refine (HS.out _).mono ?_; rintro e v3 ⟨rfl, hb⟩
      have B3 := hidH (bThen B2.out hb)
      have L_3 := hidH (L_2.out.below hb)
      clear hb c0 c1 c2 B2 L_2
      have c0 := L_3.out.cell0
      have c1 := L_3.out.cell1
      have c2 := L_3.out.cell2
      go_wp2_with fail
      go_ret
      exact ⟨by first | rfl | simp_all, B3.out⟩
    · have ⟨h1, h2, h3, h4, h5, h6, h7, h8⟩ := hall rfl
      have HE1 := hidH h1
      have HE2 := hidH h2
      clear hall h1 h2
      have c0 := L_1.out.cell0
      have c1 := L_1.out.cell1
      have c2 := L_1.out.cell2
      go_wp2_with fail
      refine (HI.out _).mono ?_; rintro e v2 ⟨rfl, hb⟩
      have B2 := hidH (bThen B1.out hb)
      have L_2 := hidH (L_1.out.below hb)
      clear hb c0 c1 c2 B1 L_1
      have c0 := L_2.out.cell0
      have c1 := L_2.out.cell1
      have c2 := L_2.out.cell2
      go_wp2_with fail
      refine (HS.out _).mono ?_; rintro e v3 ⟨rfl, hb⟩
      have B3 := hidH (bThen B2.out hb)
      have L_3 := hidH (L_2.out.below hb)
      clear hb c0 c1 c2 B2 L_2
      have c0 := L_3.out.cell0
      have c1 := L_3.out.cell1
      have c2 := L_3.out.cell2
      go_wp2_with fail
      refine (HX.out p r c _).mono ?_; rintro e v4 ⟨rfl, hb⟩
      have B4 := hidH (bThen B3.out hb)
      have L_4 := hidH (L_3.out.below hb)
      clear hb c0 c1 c2 B3 L_3
      rw [HE1.out]
      have c0 := L_4.out.cell0
      have c1 := L_4.out.cell1
      have c2 := L_4.out.cell2
      go_wp2_with fail
      refine (HP.out (k + 1) _).mono ?_; rintro e v5 ⟨rfl, hb⟩
      have B5 := hidH (bThen B4.out hb)
      have L_5 := hidH (L_4.out.below hb)
      clear hb c0 c1 c2 B4 L_4
      rw [HE2.out]
      have c0 := L_5.out.cell0
      have c1 := L_5.out.cell1
      have c2 := L_5.out.cell2
      go_wp2_with fail
      refine (HP.out (k + 1) _).mono ?_; rintro e v6 ⟨rfl, hb⟩
      have B6 := hidH (bThen B5.out hb)
      have L_6 := hidH (L_5.out.below hb)
      clear hb c0 c1 c2 B5 L_5
      rw [HE2.out]
      have c0 := L_6.out.cell0
      have c1 := L_6.out.cell1
      have c2 := L_6.out.cell2
      go_wp2_with fail
      go_ret
      exact ⟨by first | rfl | simp_all, B6.out⟩
theorem ix_all (R A W p r c : Int) (h : 0 ≤ ixA R A W p r c) : plB R A W (ixA R A W p r c) = true ∧ plP R A W (ixA R A W p r c) = p ∧ plR R A W (ixA R A W p r c) = r ∧ plC R A W (ixA R A W p r c) = c ∧ (ixA R A W p (r + 1) c = -1 ∨ ixA R A W p (r + 1) c = ixA R A W p r c + 1) ∧ r < 100 ∧ 0 ≤ r ∧ ixA R A W p r c ≤ 59 := by
  have hin : inPl R A W p r c = true := by
    cases hh : inPl R A W p r c
    · unfold ixA at h; rw [hh] at h; simp at h
    · rfl
  have ⟨g1, g2, _, _, _, _, g7, g8⟩ := pl_of R A W p r c hin
  have hx : p * (A * R) + c * R + r < 60 := by
    by_cases hh : p * (A * R) + c * R + r < 60
    · exact hh
    · unfold ixA at h; rw [hin, if_pos rfl, if_neg hh] at h; omega
  have he : ixA R A W p r c = p * (A * R) + c * R + r := by unfold ixA; rw [hin, if_pos rfl, if_pos hx]
  rw [he]
  have ⟨b1, b2, b3, b4⟩ := g1 hx
  refine ⟨b1, b2, b3, b4, ?_, by omega, g7, by omega⟩
  unfold ixA
  cases inPl R A W p (r + 1) c
  · left; rfl
  · rw [if_pos rfl]
    by_cases hh : p * (A * R) + c * R + (r + 1) < 60
    · right; rw [if_pos hh]; omega
    · left; rw [if_neg hh]
set_option maxHeartbeats 2000000 in
theorem lawIndexOfPlace (a : Option Addr) (len cap : Nat) (w : World) (hc : Came w a len cap) : Calls Try.prog 8 #[.slice a len cap] w (Gives (.bool true) w) := by
  have hcap := hc.lenLe
  have hcap2 := hc.capLe
  unfold maxLen at hcap2
  by_cases hbig : 1048576 < len
  · clear hc
    go_enter Try.func8, Try.ntmps8
    go_wp2
    go_ret
    exact ⟨rfl, Below.refl _ _⟩
  · have HD := hidH (drawIndexOfPlace a len cap w hc (by omega))
    clear hc
    go_enter Try.func8, Try.ntmps8
    go_wp2_with fail
    refine HD.out.mono ?_
    rintro e w1 ⟨X, Y, Z, p, r, c, rfl, hb⟩
    have B1 := hidH (bMore hb (layC X Y Z))
    have L_1 := hidH (LayAt.fresh w1 X Y Z)
    clear hb HD
    have HX := hidH (fun p r c W => indexOf_any X Y Z p r c W)
    have HS := hidH (fun p r c W => sIndexOf_any X Y Z p r c W)
    have HP := hidH (fun k W => placeOf_any X Y Z k W)
    have hall := ix_all X Y Z p r c
    unfold layV layC at *
    obtain ⟨n, hn⟩ : ∃ n, n = ixA X Y Z p r c := ⟨_, rfl⟩
    rw [← hn] at hall
    have HXn := hidH (HX.out p r c)
    have HSn := hidH (HS.out p r c)
    rw [← hn] at HXn HSn
    clear hn
    by_cases h0 : n < 0
    · clear hall
      have c0 := L_1.out.cell0
      have c1 := L_1.out.cell1
      have c2 := L_1.out.cell2
      go_wp2_with fail
      refine (HXn.out _).mono ?_; rintro e v2 ⟨rfl, hb⟩
      have B2 := hidH (bThen B1.out hb)
      have L_2 := hidH (L_1.out.below hb)
      clear hb c0 c1 c2 B1 L_1
      have c0 := L_2.out.cell0
      have c1 := L_2.out.cell1
      have c2 := L_2.out.cell2
      go_wp2_with fail
      refine (HSn.out _).mono ?_; rintro e v3 ⟨rfl, hb⟩
      have B3 := hidH (bThen B2.out hb)
      have L_3 := hidH (L_2.out.below hb)
      clear hb c0 c1 c2 B2 L_2
      have c0 := L_3.out.cell0
      have c1 := L_3.out.cell1
      have c2 := L_3.out.cell2
      go_wp2_with fail
      refine (HSn.out _).mono ?_; rintro e v4 ⟨rfl, hb⟩
      have B4 := hidH (bThen B3.out hb)
      have L_4 := hidH (L_3.out.below hb)
      clear hb c0 c1 c2 B3 L_3
      have c0 := L_4.out.cell0
      have c1 := L_4.out.cell1
      have c2 := L_4.out.cell2
      go_wp2_with fail
      go_ret
      exact ⟨by first | rfl | simp_all, B4.out⟩
    · have ⟨h1, h2, h3, h4, h5, h6, h7, h8⟩ := hall (by omega)
      have HPn := hidH (HP.out n)
      rw [h1, h2, h3, h4] at HPn
      have HB := hidH (HX.out p (r + 1) c)
      generalize ixA X Y Z p (r + 1) c = m at *
      clear hall h1 h2 h3 h4
      have c0 := L_1.out.cell0
      have c1 := L_1.out.cell1
      have c2 := L_1.out.cell2
      go_wp2_with fail
      refine (HXn.out _).mono ?_; rintro e v2 ⟨rfl, hb⟩
      have B2 := hidH (bThen B1.out hb)
      have L_2 := hidH (L_1.out.below hb)
      clear hb c0 c1 c2 B1 L_1
      have c0 := L_2.out.cell0
      have c1 := L_2.out.cell1
      have c2 := L_2.out.cell2
      go_wp2_with fail
      refine (HSn.out _).mono ?_; rintro e v3 ⟨rfl, hb⟩
      have B3 := hidH (bThen B2.out hb)
      have L_3 := hidH (L_2.out.below hb)
      clear hb c0 c1 c2 B2 L_2
      have c0 := L_3.out.cell0
      have c1 := L_3.out.cell1
      have c2 := L_3.out.cell2
      go_wp2_with fail
      refine (HPn.out _).mono ?_; rintro e v4 ⟨rfl, hb⟩
      have B4 := hidH (bThen B3.out hb)
      have L_4 := hidH (L_3.out.below hb)
      clear hb c0 c1 c2 B3 L_3
      have c0 := L_4.out.cell0
      have c1 := L_4.out.cell1
      have c2 := L_4.out.cell2
      go_wp2_with fail
      refine (HB.out _).mono ?_; rintro e v5 ⟨rfl, hb⟩
      have B5 := hidH (bThen B4.out hb)
      have L_5 := hidH (L_4.out.below hb)
      clear hb c0 c1 c2 B4 L_4
      rcases h5 with h5 | h5
      · subst h5
        have c0 := L_5.out.cell0
        have c1 := L_5.out.cell1
        have c2 := L_5.out.cell2
        go_wp2_with fail
        go_ret
        exact ⟨by first | rfl | simp_all, B5.out⟩
      · subst h5
        have c0 := L_5.out.cell0
        have c1 := L_5.out.cell1
        have c2 := L_5.out.cell2
        go_wp2_with fail
        go_ret
        exact ⟨by first | rfl | simp_all, B5.out⟩
end Go.Proofs.Ytnndeiiolnefkaa
