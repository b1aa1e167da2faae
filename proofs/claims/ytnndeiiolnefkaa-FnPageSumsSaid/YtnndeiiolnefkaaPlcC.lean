/-
  Places of a layout: the model, at every argument. No conditions.
-/
import Derived.Test.YtnndeiiolnefkaaPlcB
namespace Go.Proofs.Ytnndeiiolnefkaa
set_option maxRecDepth 4000
open Go.RowKit
theorem sLayoutValid_any (R A W : Int) (w : World) : Calls Try.prog 47 #[layV R A W] w fun e w' => e = .returned (.bool (layOk R A W)) ∧ w' = w.alloc (.cells #[.int .i64 R, .int .i64 A, .int .i64 W] 38) := by
  unfold layOk layV
  have H1 := hidH (fun W' => sIn_any R 1 20 _ rfl W')
  have H2 := hidH (fun W' => sIn_any A 1 6 _ rfl W')
  have H3 := hidH (fun W' => sIn_any W 1 12 _ rfl W')
  generalize decide ((1 : Int) ≤ R ∧ R ≤ 20) = b1 at *
  generalize decide ((1 : Int) ≤ A ∧ A ≤ 6) = b2 at *
  generalize decide ((1 : Int) ≤ W ∧ W ≤ 12) = b3 at *
  cases b1
  · go_enter Try.func47, Try.ntmps47
    go_wp2_with fail
    refine (H1.out _).mono ?_; rintro e w1 ⟨rfl, rfl⟩
    go_wp2_with fail
    go_ret
    exact ⟨rfl, rfl⟩
  · cases b2
    · go_enter Try.func47, Try.ntmps47
      go_wp2_with fail
      refine (H1.out _).mono ?_; rintro e w1 ⟨rfl, rfl⟩
      go_wp2_with fail
      refine (H2.out _).mono ?_; rintro e w1 ⟨rfl, rfl⟩
      go_wp2_with fail
      go_ret
      exact ⟨rfl, rfl⟩
    · go_enter Try.func47, Try.ntmps47
      go_wp2_with fail
      refine (H1.out _).mono ?_; rintro e w1 ⟨rfl, rfl⟩
      go_wp2_with fail
      refine (H2.out _).mono ?_; rintro e w1 ⟨rfl, rfl⟩
      go_wp2_with fail
      refine (H3.out _).mono ?_; rintro e w1 ⟨rfl, rfl⟩
      go_wp2_with fail
      go_ret
      exact ⟨rfl, rfl⟩
theorem sPagesNeeded_any (R A W c : Int) (w : World) : Calls Try.prog 55 #[layV R A W, .int .i64 c] w (Gives (.int .i64 (pagesA R A W c)) w) := by
  unfold pagesA
  have HL := hidH (fun W' => sLayoutValid_any R A W W')
  cases hl : layOk R A W
  · rw [hl] at HL
    clear hl
    unfold layV at *
    go_enter Try.func55, Try.ntmps55
    go_wp2_with fail
    refine (HL.out _).mono ?_; rintro e w1 ⟨rfl, rfl⟩
    go_wp2_with fail
    go_ret
    exact ⟨rfl, by (repeat (first | exact Below.refl _ _ | refine Below.drew ?_ | refine bMore ?_ _))⟩
  · rw [hl] at HL
    have ⟨⟨r1, r2⟩, ⟨a1, a2⟩, _⟩ := (layOk_iff R A W).1 hl
    have ⟨p1, p2, p3⟩ := places_bd R A r1 r2 a1 a2
    have hcm := Int.mul_comm A R
    clear hl
    unfold layV at *
    cases hc : cntOk6 c
    · have HC := hidH (fun W' => sIn_any c 0 60 false hc W')
      clear hc
      go_enter Try.func55, Try.ntmps55
      go_wp2_with fail
      refine (HL.out _).mono ?_; rintro e w1 ⟨rfl, rfl⟩
      go_wp2_with fail
      refine (HC.out _).mono ?_; rintro e w2 ⟨rfl, rfl⟩
      go_wp2_with fail
      go_ret
      exact ⟨rfl, by (repeat (first | exact Below.refl _ _ | refine Below.drew ?_ | refine bMore ?_ _))⟩
    · have ⟨c1, c2⟩ := of_decide_eq_true hc
      have HC := hidH (fun W' => sIn_any c 0 60 true hc W')
      clear hc
      rw [hcm]
      rw [hcm] at p1 p2 p3
      clear hcm
      have q1 : 0 ≤ (c + R * A - 1) / (R * A) := Int.ediv_nonneg (by omega) (by omega)
      have q2 : (c + R * A - 1) / (R * A) ≤ c + R * A - 1 := Int.ediv_le_self _ (by omega)
      go_enter Try.func55, Try.ntmps55
      go_wp2_with fail
      refine (HL.out _).mono ?_; rintro e w1 ⟨rfl, rfl⟩
      go_wp2_with fail
      refine (HC.out _).mono ?_; rintro e w2 ⟨rfl, rfl⟩
      go_wp2_with fail
      go_ret
      exact ⟨rfl, by (repeat (first | exact Below.refl _ _ | refine Below.drew ?_ | refine bMore ?_ _))⟩
theorem sPlaceOf_no (R A W k : Int) (w : World) (h : plB R A W k = false) : Calls Try.prog 22 #[layV R A W, .int .i64 k] w (Gives (.tuple #[.int .i64 0, .int .i64 0, .int .i64 0, .bool false]) w) := by
  have HL := hidH (fun W' => sLayoutValid_any R A W W')
  unfold plB at h
  cases hl : layOk R A W
  · rw [hl] at HL
    clear hl h
    unfold layV at *
    go_enter Try.func22, Try.ntmps22
    go_wp2_with fail
    refine (HL.out _).mono ?_; rintro e w1 ⟨rfl, rfl⟩
    go_wp2_with fail
    ((try simp only [Exit.inBlock, Exit.then]); refine bodyPost_ret (results_four rfl _ _ _) rfl ?_)
    exact ⟨rfl, by (repeat (first | exact Below.refl _ _ | refine Below.drew ?_ | refine bMore ?_ _))⟩
  · rw [hl] at HL
    rw [hl, Bool.true_and] at h
    have HC := hidH (fun W' => sIn_any k 0 59 false h W')
    clear hl h
    unfold layV at *
    go_enter Try.func22, Try.ntmps22
    go_wp2_with fail
    refine (HL.out _).mono ?_; rintro e w1 ⟨rfl, rfl⟩
    go_wp2_with fail
    refine (HC.out _).mono ?_; rintro e w2 ⟨rfl, rfl⟩
    go_wp2_with fail
    ((try simp only [Exit.inBlock, Exit.then]); refine bodyPost_ret (results_four rfl _ _ _) rfl ?_)
    exact ⟨rfl, by (repeat (first | exact Below.refl _ _ | refine Below.drew ?_ | refine bMore ?_ _))⟩
set_option maxHeartbeats 1600000 in
theorem sPlaceOf_yes (R A W k : Int) (w : World) (hl : layOk R A W = true) (hk : idxOk k = true) : Calls Try.prog 22 #[layV R A W, .int .i64 k] w (Gives (.tuple #[.int .i64 (k / (A * R)), .int .i64 (k % (A * R) % R), .int .i64 (k % (A * R) / R), .bool true]) w) := by
  have HL := hidH (fun W' => sLayoutValid_any R A W W')
  rw [hl] at HL
  have HC := hidH (fun W' => sIn_any k 0 59 true hk W')
  have ⟨k1, k2⟩ := of_decide_eq_true hk
  have ⟨⟨r1, r2⟩, ⟨a1, a2⟩, _⟩ := (layOk_iff R A W).1 hl
  have ⟨p1, p2, p3⟩ := places_bd R A r1 r2 a1 a2
  have ⟨s1, s2, s3, s4, s5⟩ := split_place R (A * R) k r1 p1
  have ⟨s6, s7⟩ := col_bd R A (k % (A * R)) r1 s2 s3
  have s8 : 0 ≤ k / (A * R) := Int.ediv_nonneg k1 (by omega)
  have s9 : k / (A * R) ≤ k := Int.ediv_le_self _ k1
  have hm : R * A = A * R := Int.mul_comm R A
  rw [← hm] at p1 p2 p3 s2 s3 s4 s5 s6 s7 s8 s9 ⊢
  clear hl hk s1 hm
  unfold layV at *
  have T2 := hidH (show IntKind.i64.wrap (k.tdiv (R * A)) = k / (R * A) from by rw [Int.tdiv_eq_ediv_of_nonneg k1]; exact IntWalk.i64_in _ (by omega))
  have T4 := hidH (show IntKind.i64.wrap ((k % (R * A)).tdiv R) = k % (R * A) / R from by rw [Int.tdiv_eq_ediv_of_nonneg s2]; exact IntWalk.i64_in _ (by omega))
  have w1 : IntKind.i64.wrap (R * A) = R * A := IntWalk.i64_in _ (by omega)
  have w2 : wrap64 (R * A) = R * A := IntWalk.wrap64_in _ (by omega)
  have L1 := hidH ((LayAt.fresh w R A W).below (bMore (Below.refl _ _) (layC R A W)))
  have B1 := hidH (bMore (bMore (Below.refl w.heap.size w) (layC R A W)) (layC R A W))
  go_enter Try.func22, Try.ntmps22
  go_wp2_with fail
  refine (HL.out _).mono ?_; rintro e w1 ⟨rfl, rfl⟩
  go_wp2_with fail
  refine (HC.out _).mono ?_; rintro e w1 ⟨rfl, rfl⟩
  have hce := L1.out.cell0
  have hcf := L1.out.cell1
  obtain ⟨W9, hW9⟩ : ∃ W9, W9 = (w.alloc (layC R A W)).alloc (layC R A W) := ⟨_, rfl⟩
  unfold layC at *
  rw [← hW9] at hce hcf ⊢
  have HB9 : Below w.heap.size w W9 := by rw [hW9]; exact B1.out
  have hsz9 : w.heap.size < W9.heap.size := by rw [hW9]; simp; omega
  have HB := hidH HB9
  clear HB9 hW9 L1 B1
  go_wp2_with (go_region)
  all_goals (
    ((try simp only [Exit.inBlock, Exit.then]); refine bodyPost_ret (results_four rfl _ _ _) rfl ?_)
    exact ⟨by rfl, by first | exact HB.out | exact HB.out.drew⟩)
theorem sPlaceOf_any (R A W k : Int) (w : World) : Calls Try.prog 22 #[layV R A W, .int .i64 k] w (Gives (.tuple #[.int .i64 (plP R A W k), .int .i64 (plR R A W k), .int .i64 (plC R A W k), .bool (plB R A W k)]) w) := by
  unfold plP plR plC
  cases h : plB R A W k
  · exact sPlaceOf_no R A W k w h
  · have h' := h
    unfold plB at h'
    rw [Bool.and_eq_true] at h'
    exact sPlaceOf_yes R A W k w h'.1 h'.2
set_option maxHeartbeats 1600000 in
theorem sIndexOf_any (R A W p r c : Int) (w : World) : Calls Try.prog 26 #[layV R A W, .int .i64 p, .int .i64 r, .int .i64 c] w (Gives (.int .i64 (ixA R A W p r c)) w) := by
  have HX := hidH (show ixA R A W p r c = (if inPl R A W p r c then (if p * (A * R) + c * R + r < 60 then p * (A * R) + c * R + r else -1) else -1) from rfl)
  generalize ixA R A W p r c = ans at *
  have HL := hidH (fun W' => sLayoutValid_any R A W W')
  cases hl : layOk R A W
  · have e : ans = -1 := by rw [HX.out]; unfold inPl; rw [hl]; rfl
    subst e
    rw [hl] at HL
    clear hl HX
    unfold layV at *
    go_enter Try.func26, Try.ntmps26
    go_wp2_with fail
    refine (HL.out _).mono ?_; rintro e w1 ⟨rfl, rfl⟩
    go_wp2_with fail
    go_ret
    exact ⟨rfl, by (repeat (first | exact Below.refl _ _ | refine Below.drew ?_ | refine bMore ?_ _))⟩
  · have ⟨⟨r1, r2⟩, ⟨a1, a2⟩, _⟩ := (layOk_iff R A W).1 hl
    rw [hl] at HL
    cases hp : decide ((0 : Int) ≤ p ∧ p ≤ 59)
    · have e : ans = -1 := by rw [HX.out]; unfold inPl; rw [hl, hp]; rfl
      subst e
      have H1 := hidH (fun W' => sIn_any p 0 59 false hp W')
      clear hl hp HX
      unfold layV at *
      go_enter Try.func26, Try.ntmps26
      go_wp2_with fail
      refine (HL.out _).mono ?_; rintro e w1 ⟨rfl, rfl⟩
      go_wp2_with fail
      refine (H1.out _).mono ?_; rintro e w1 ⟨rfl, rfl⟩
      go_wp2_with fail
      go_ret
      exact ⟨rfl, by (repeat (first | exact Below.refl _ _ | refine Below.drew ?_ | refine bMore ?_ _))⟩
    · have H1 := hidH (fun W' => sIn_any p 0 59 true hp W')
      cases hr : decide ((0 : Int) ≤ r ∧ r ≤ R - 1)
      · have e : ans = -1 := by rw [HX.out]; unfold inPl; rw [hl, hp, hr]; rfl
        subst e
        have H2 := hidH (fun W' => sIn_any r 0 (R - 1) false hr W')
        clear hl hp hr HX
        unfold layV at *
        go_enter Try.func26, Try.ntmps26
        go_wp2_with fail
        refine (HL.out _).mono ?_; rintro e w1 ⟨rfl, rfl⟩
        go_wp2_with fail
        refine (H1.out _).mono ?_; rintro e w1 ⟨rfl, rfl⟩
        go_wp2_with fail
        refine (H2.out _).mono ?_; rintro e w1 ⟨rfl, rfl⟩
        go_wp2_with fail
        go_ret
        exact ⟨rfl, by (repeat (first | exact Below.refl _ _ | refine Below.drew ?_ | refine bMore ?_ _))⟩
      · have H2 := hidH (fun W' => sIn_any r 0 (R - 1) true hr W')
        cases hc : decide ((0 : Int) ≤ c ∧ c ≤ A - 1)
        · have e : ans = -1 := by rw [HX.out]; unfold inPl; rw [hl, hp, hr, hc]; rfl
          subst e
          have H3 := hidH (fun W' => sIn_any c 0 (A - 1) false hc W')
          clear hl hp hr hc HX
          unfold layV at *
          go_enter Try.func26, Try.ntmps26
          go_wp2_with fail
          refine (HL.out _).mono ?_; rintro e w1 ⟨rfl, rfl⟩
          go_wp2_with fail
          refine (H1.out _).mono ?_; rintro e w1 ⟨rfl, rfl⟩
          go_wp2_with fail
          refine (H2.out _).mono ?_; rintro e w1 ⟨rfl, rfl⟩
          go_wp2_with fail
          refine (H3.out _).mono ?_; rintro e w1 ⟨rfl, rfl⟩
          go_wp2_with fail
          go_ret
          exact ⟨rfl, by (repeat (first | exact Below.refl _ _ | refine Below.drew ?_ | refine bMore ?_ _))⟩
        · have H3 := hidH (fun W' => sIn_any c 0 (A - 1) true hc W')
          have hin : inPl R A W p r c = true := by unfold inPl; rw [hl, hp, hr, hc]; rfl
          have ⟨_, _, n1, n2, n3, n4, n5, n6⟩ := pl_of R A W p r c hin
          rw [hin, if_pos rfl] at HX
          have ⟨p4, p5⟩ := of_decide_eq_true hp
          have hpr0 : 0 ≤ p * R := Int.mul_nonneg p4 (by omega)
          have hpr1 : p * R ≤ 59 * R := Int.mul_le_mul_of_nonneg_right p5 (by omega)
          have hm : p * R * A = p * (A * R) := by rw [Int.mul_assoc, Int.mul_comm R A]
          have x1 : 0 ≤ p * R * A := by rw [hm]; exact n1
          have x2 : p * R * A ≤ 7080 := by rw [hm]; exact n2
          rw [← hm] at HX
          clear hl hp hr hc hin hm n1 n2 p4 p5
          have v1 : wrap64 (p * R) = p * R := IntWalk.wrap64_in _ (by omega)
          have v2 : wrap64 (p * R * A) = p * R * A := IntWalk.wrap64_in _ (by omega)
          have v3 : wrap64 (c * R) = c * R := IntWalk.wrap64_in _ (by omega)
          unfold layV at *
          by_cases hlt : p * R * A + c * R + r < 60
          · rw [if_pos hlt] at HX
            obtain rfl := HX.out
            clear HX
            go_enter Try.func26, Try.ntmps26
            go_wp2_with fail
            refine (HL.out _).mono ?_; rintro e w1 ⟨rfl, rfl⟩
            go_wp2_with fail
            refine (H1.out _).mono ?_; rintro e w1 ⟨rfl, rfl⟩
            go_wp2_with fail
            refine (H2.out _).mono ?_; rintro e w1 ⟨rfl, rfl⟩
            go_wp2_with fail
            refine (H3.out _).mono ?_; rintro e w1 ⟨rfl, rfl⟩
            go_wp2_with fail
            go_ret
            exact ⟨rfl, by (repeat (first | exact Below.refl _ _ | refine Below.drew ?_ | refine bMore ?_ _))⟩
          · rw [if_neg hlt] at HX
            obtain rfl := HX.out
            clear HX
            go_enter Try.func26, Try.ntmps26
            go_wp2_with fail
            refine (HL.out _).mono ?_; rintro e w1 ⟨rfl, rfl⟩
            go_wp2_with fail
            refine (H1.out _).mono ?_; rintro e w1 ⟨rfl, rfl⟩
            go_wp2_with fail
            refine (H2.out _).mono ?_; rintro e w1 ⟨rfl, rfl⟩
            go_wp2_with fail
            refine (H3.out _).mono ?_; rintro e w1 ⟨rfl, rfl⟩
            go_wp2_with fail
            go_ret
            exact ⟨rfl, by (repeat (first | exact Below.refl _ _ | refine Below.drew ?_ | refine bMore ?_ _))⟩
end Go.Proofs.Ytnndeiiolnefkaa
