/-
  IndexOfPlace: the program, at every argument. No conditions.
-/
import Derived.Test.YtnndeiiolnefkaaPlcA
namespace Go.Proofs.Ytnndeiiolnefkaa
set_option maxRecDepth 4000
open Go.RowKit
theorem placeOf_any (R A W k : Int) (w : World) : Calls Try.prog 21 #[layV R A W, .int .i64 k] w (Gives (.tuple #[.int .i64 (plP R A W k), .int .i64 (plR R A W k), .int .i64 (plC R A W k), .bool (plB R A W k)]) w) := by
  unfold plP plR plC
  cases h : plB R A W k
  · exact placeOf_no R A W k w h
  · have h' := h
    unfold plB at h'
    rw [Bool.and_eq_true] at h'
    exact placeOf_yes R A W k w h'.1 h'.2
theorem inPl_of (R A W p r c k : Int) (h : plB R A W k = true) (e1 : plP R A W k = p) (e2 : plR R A W k = r) (e3 : plC R A W k = c) : inPl R A W p r c = true ∧ p * (A * R) + c * R + r = k := by
  have h' := h
  unfold plB at h'
  rw [Bool.and_eq_true] at h'
  have ⟨k1, k2⟩ := of_decide_eq_true h'.2
  have ⟨⟨r1, r2⟩, ⟨a1, a2⟩, _⟩ := (layOk_iff R A W).1 h'.1
  have ⟨p1, p2, p3⟩ := places_bd R A r1 r2 a1 a2
  have ⟨s1, s2, s3, s4, s5⟩ := split_place R (A * R) k r1 p1
  have ⟨s6, s7⟩ := col_bd R A (k % (A * R)) r1 s2 s3
  have s8 : 0 ≤ k / (A * R) := Int.ediv_nonneg k1 (by omega)
  have s9 : k / (A * R) ≤ k := Int.ediv_le_self _ k1
  unfold plP at e1
  unfold plR at e2
  unfold plC at e3
  rw [h] at e1 e2 e3
  rw [if_pos rfl] at e1 e2 e3
  rw [e1] at s1 s8 s9
  rw [e2] at s1 s4 s5
  rw [e3] at s1 s6 s7
  refine ⟨?_, s1⟩
  unfold inPl
  rw [h'.1, decide_eq_true (show (0 : Int) ≤ p ∧ p ≤ 59 by omega), decide_eq_true (show (0 : Int) ≤ r ∧ r ≤ R - 1 by omega), decide_eq_true (show (0 : Int) ≤ c ∧ c ≤ A - 1 by omega)]
  rfl
theorem pl_of (R A W p r c : Int) (h : inPl R A W p r c = true) : (p * (A * R) + c * R + r < 60 → plB R A W (p * (A * R) + c * R + r) = true ∧ plP R A W (p * (A * R) + c * R + r) = p ∧ plR R A W (p * (A * R) + c * R + r) = r ∧ plC R A W (p * (A * R) + c * R + r) = c) ∧ (¬ p * (A * R) + c * R + r < 60 → plB R A W (p * (A * R) + c * R + r) = false) ∧ 0 ≤ p * (A * R) ∧ p * (A * R) ≤ 7080 ∧ 0 ≤ c * R ∧ c * R ≤ 120 ∧ 0 ≤ r ∧ r ≤ 20 := by
  unfold inPl at h
  rw [Bool.and_eq_true, Bool.and_eq_true, Bool.and_eq_true] at h
  obtain ⟨hl, hp, hr, hc⟩ := h
  have ⟨⟨r1, r2⟩, ⟨a1, a2⟩, _⟩ := (layOk_iff R A W).1 hl
  have ⟨p1, p2, p3⟩ := places_bd R A r1 r2 a1 a2
  have ⟨p4, p5⟩ := of_decide_eq_true hp
  have ⟨q4, q5⟩ := of_decide_eq_true hr
  have ⟨c4, c5⟩ := of_decide_eq_true hc
  have ⟨j1, j2, j3, j4, j5, j6⟩ := join_place R A p r c r1 q4 (by omega) c4 (by omega)
  have n1 : 0 ≤ p * (A * R) := Int.mul_nonneg p4 (by omega)
  have n2 : p * (A * R) ≤ 59 * (A * R) := Int.mul_le_mul_of_nonneg_right p5 (by omega)
  have n3 : 0 ≤ c * R := Int.mul_nonneg c4 (by omega)
  refine ⟨fun h => ?_, fun h => ?_, n1, by omega, n3, by omega, q4, by omega⟩
  · have hb : plB R A W (p * (A * R) + c * R + r) = true := by
      unfold plB idxOk
      rw [hl, decide_eq_true (show (0 : Int) ≤ p * (A * R) + c * R + r ∧ p * (A * R) + c * R + r ≤ 59 by omega)]; rfl
    refine ⟨hb, ?_, ?_, ?_⟩
    · unfold plP; rw [hb, if_pos rfl, j1]
    · unfold plR; rw [hb, if_pos rfl, j2, j3]
    · unfold plC; rw [hb, if_pos rfl, j2, j4]
  · unfold plB idxOk
    rw [hl, decide_eq_false (show ¬ ((0 : Int) ≤ p * (A * R) + c * R + r ∧ p * (A * R) + c * R + r ≤ 59) by omega)]; rfl
theorem placeOf_off (R A W p r c : Int) (h : inPl R A W p r c = false) (k : Int) (w : World) : Calls Try.prog 21 #[layV R A W, .int .i64 k] w fun e w' => ∃ (p' r' c' : Int) (b : Bool), e = .returned (.tuple #[.int .i64 p', .int .i64 r', .int .i64 c', .bool b]) ∧ Below w.heap.size w w' ∧ (b = true → p' ≠ p ∨ p' = p ∧ r' ≠ r ∨ p' = p ∧ r' = r ∧ c' ≠ c) :=
  (placeOf_any R A W k w).mono fun e w' ⟨he, hb⟩ => ⟨_, _, _, _, he, hb, fun hB => by
    by_cases e1 : plP R A W k = p
    · by_cases e2 : plR R A W k = r
      · by_cases e3 : plC R A W k = c
        · have := (inPl_of R A W p r c k hB e1 e2 e3).1
          rw [h] at this; cases this
        · exact .inr (.inr ⟨e1, e2, e3⟩)
      · exact .inr (.inl ⟨e1, e2⟩)
    · exact .inl e1⟩
set_option maxHeartbeats 1600000 in
theorem indexOf_no (R A W p r c : Int) (w : World) (h : inPl R A W p r c = false) : Calls Try.prog 23 #[layV R A W, .int .i64 p, .int .i64 r, .int .i64 c] w (Gives (.int .i64 (-1)) w) := by
  have HP := hidH (fun W' => placesOf_some0 R A W W')
  have HQ := hidH (fun W' => placesOf_some1 R A W W')
  have HO := hidH (fun k W' => placeOf_off R A W p r c h k W')
  clear h
  unfold layV at *
  have L1 := hidH (LayAt.fresh w R A W)
  have B1 := hidH (bMore (Below.refl w.heap.size w) (layC R A W))
  go_enter Try.func23, Try.ntmps23
  go_wp2_with fail
  go_cut [9] from 14 to 25 (fun s9 wx => (∃ x : Int, s9 = .int .i64 x) ∧ LayAt wx w.heap.size R A W ∧ Below w.heap.size w wx)
  case first =>
    go_region_with ((go_at_call 46; first | ((with_reducible refine (HP.out _).mono ?_); rintro e wd ⟨n, rfl, rfl⟩) | ((with_reducible refine (HQ.out _).mono ?_); rintro e wd ⟨n, rfl, rfl⟩)))
    all_goals (
      go_wp2_with fail
      go_meet
      exact ⟨⟨_, rfl⟩, L1.out.below (by (repeat (first | exact Below.refl _ _ | refine Below.drew ?_ | refine bMore ?_ _))), bThen B1.out (by (repeat (first | exact Below.refl _ _ | refine Below.drew ?_ | refine bMore ?_ _)))⟩)
  case rest =>
    obtain ⟨⟨x, rfl⟩, hL, hB⟩ := hcut
    have c0 := hL.cell0
    have c1 := hL.cell1
    have c2 := hL.cell2
    have HB := hidH hB
    clear L1 B1 hB
    go_wp2_with fail
    refine (HO.out x _).mono ?_; rintro e w2 ⟨p', r', c', b, rfl, hb, hne⟩
    have HB2 := hidH (bThen HB.out hb)
    clear hb hL c0 c1 c2 HB
    cases b
    · clear hne
      go_wp2_with fail
      go_ret
      exact ⟨rfl, HB2.out⟩
    · rcases hne rfl with h1 | ⟨h1, h2⟩ | ⟨h1, h2, h3⟩
      · have d1 : (p' != p) = true := bne_iff_ne.2 h1
        clear hne h1
        go_wp2_with fail
        go_ret
        exact ⟨rfl, HB2.out⟩
      · have d1 : (p' != p) = false := bne_eq_false_iff_eq.2 h1
        have d2 : (r' != r) = true := bne_iff_ne.2 h2
        clear hne h1 h2
        go_wp2_with fail
        go_ret
        exact ⟨rfl, HB2.out⟩
      · have d1 : (p' != p) = false := bne_eq_false_iff_eq.2 h1
        have d2 : (r' != r) = false := bne_eq_false_iff_eq.2 h2
        have d3 : (c' != c) = true := bne_iff_ne.2 h3
        clear hne h1 h2 h3
        go_wp2_with fail
        go_ret
        exact ⟨rfl, HB2.out⟩
set_option maxHeartbeats 1600000 in
theorem indexOf_yes (R A W p r c : Int) (w : World) (h : inPl R A W p r c = true) : Calls Try.prog 23 #[layV R A W, .int .i64 p, .int .i64 r, .int .i64 c] w (Gives (.int .i64 (if p * (A * R) + c * R + r < 60 then p * (A * R) + c * R + r else -1)) w) := by
  have ⟨g1, g2, n1, n2, n3, n4, n5, n6⟩ := pl_of R A W p r c h
  unfold inPl at h
  rw [Bool.and_eq_true] at h
  have ⟨⟨r1, r2⟩, ⟨a1, a2⟩, _⟩ := (layOk_iff R A W).1 h.1
  have ⟨p1, p2, p3⟩ := places_bd R A r1 r2 a1 a2
  have HP := hidH (fun W' => placesOf_page R A W p1 p2 W')
  have HQ := hidH (fun W' => placesOf_col R A W r1 r2 W')
  have HO := hidH (fun k W' => placeOf_any R A W k W')
  clear h
  unfold layV at *
  have L1 := hidH (LayAt.fresh w R A W)
  have B1 := hidH (bMore (Below.refl w.heap.size w) (layC R A W))
  have G1 := hidH g1
  have G2 := hidH g2
  clear g1 g2
  obtain ⟨ans, hans⟩ : ∃ a : Int, a = (if p * (A * R) + c * R + r < 60 then p * (A * R) + c * R + r else -1) := ⟨_, rfl⟩
  rw [← hans]
  have HA := hidH hans
  clear hans
  generalize A * R = P at *
  have W1 := hidH (show IntKind.i64.wrap (IntKind.i64.wrap (IntKind.i64.wrap (p * P) + IntKind.i64.wrap (c * R)) + r) = p * P + c * R + r from by
    rw [IntWalk.i64_in (p * P) (by omega), IntWalk.i64_in (c * R) (by omega), IntWalk.i64_in (p * P + c * R) (by omega), IntWalk.i64_in (p * P + c * R + r) (by omega)])
  have W2 := hidH (show IntKind.i64.wrap (IntKind.i64.wrap (p * P + c * R) + r) = p * P + c * R + r from by
    rw [IntWalk.i64_in (p * P + c * R) (by omega), IntWalk.i64_in (p * P + c * R + r) (by omega)])
  have q1 : IntKind.i64.wrap (p * P) = p * P := IntWalk.i64_in _ (by omega)
  have q2 : IntKind.i64.wrap (c * R) = c * R := IntWalk.i64_in _ (by omega)
  go_enter Try.func23, Try.ntmps23
  go_wp2_with fail
  go_cut [9] from 14 to 25 (fun s9 wx => s9 = .int .i64 (p * P + c * R + r) ∧ LayAt wx w.heap.size R A W ∧ Below w.heap.size w wx)
  case first =>
    go_region_with ((go_at_call 46; first | ((with_reducible refine (HP.out _).mono ?_); rintro e wd ⟨rfl, rfl⟩) | ((with_reducible refine (HQ.out _).mono ?_); rintro e wd ⟨rfl, rfl⟩)))
    all_goals (
      go_wp2_with fail
      go_meet
      exact ⟨by first | rfl | rw [W1.out] | rw [W2.out], L1.out.below (by (repeat (first | exact Below.refl _ _ | refine Below.drew ?_ | refine bMore ?_ _))), bThen B1.out (by (repeat (first | exact Below.refl _ _ | refine Below.drew ?_ | refine bMore ?_ _)))⟩)
  case rest =>
    obtain ⟨rfl, hL, hB⟩ := hcut
    have c0 := hL.cell0
    have c1 := hL.cell1
    have c2 := hL.cell2
    have HB := hidH hB
    clear L1 B1 hB
    generalize hx : p * P + c * R + r = x at *
    clear q1 q2 W1 W2
    go_wp2_with fail
    refine (HO.out x _).mono ?_; rintro e w2 ⟨rfl, hb⟩
    have HB2 := hidH (bThen HB.out hb)
    clear hb hL c0 c1 c2 HB
    by_cases hlt : x < 60
    · obtain ⟨e1, e2, e3, e4⟩ := G1.out hlt
      rw [e1, e2, e3, e4]
      rw [if_pos hlt] at HA
      obtain rfl := HA.out
      clear hlt hx
      go_wp2_with fail
      go_ret
      exact ⟨rfl, HB2.out⟩
    · rw [G2.out (by omega)]
      rw [if_neg hlt] at HA
      obtain rfl := HA.out
      clear hlt hx
      generalize plP R A W x = y1 at *
      generalize plR R A W x = y2 at *
      generalize plC R A W x = y3 at *
      go_wp2_with fail
      go_ret
      exact ⟨rfl, HB2.out⟩
theorem indexOf_any (R A W p r c : Int) (w : World) : Calls Try.prog 23 #[layV R A W, .int .i64 p, .int .i64 r, .int .i64 c] w (Gives (.int .i64 (ixA R A W p r c)) w) := by
  unfold ixA
  cases h : inPl R A W p r c
  · exact indexOf_no R A W p r c w h
  · rw [if_pos rfl]
    exact indexOf_yes R A W p r c w h
end Go.Proofs.Ytnndeiiolnefkaa
