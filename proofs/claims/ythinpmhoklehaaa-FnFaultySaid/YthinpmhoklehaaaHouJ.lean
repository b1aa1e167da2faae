/-
  Vote: the model, at every argument. No conditions but that slices fit in memory.
-/
import Derived.Test.YthinpmhoklehaaaHouI
namespace Go.Proofs.Ythinpmhoklehaaa
set_option maxRecDepth 4000
open Go.RowKit
theorem three_eq (x y z : List Int) : threeOk x y z = (tableOk x && (tableOk y && (tableOk z && (decide (x.length = y.length) && decide (x.length = z.length))))) := by
  unfold threeOk tabsOk
  cases tableOk x <;> cases tableOk y <;> cases tableOk z <;> cases decide (x.length = y.length) <;> rfl
theorem sThree_any (v0 : Value) (zs0 : List Int) (v1 : Value) (zs1 : List Int) (v2 : Value) (zs2 : List Int) (w : World) (lo0 hi0 lo1 hi1 lo2 hi2 : Nat) (hv0 : Lies w lo0 hi0 v0 zs0) (hv1 : Lies w lo1 hi1 v1 zs1) (hv2 : Lies w lo2 hi2 v2 zs2) : Calls Try.prog 42 #[v0, v1, v2] w (Gives (.bool (threeOk zs0 zs1 zs2)) w) := by
  rw [three_eq]
  have V0_0 := hidH hv0
  have V1_0 := hidH hv1
  have V2_0 := hidH hv2
  obtain ⟨a0, cap0, rfl, hlc0, hcm0, _, _⟩ := hv0
  obtain ⟨a1, cap1, rfl, hlc1, hcm1, _, _⟩ := hv1
  obtain ⟨a2, cap2, rfl, hlc2, hcm2, _, _⟩ := hv2
  unfold maxLen at hcm0 hcm1 hcm2
  cases h0 : tableOk zs0
  · have T0 := hidH h0
    clear h0
    rw [Bool.false_and]
    go_enter Try.func42, Try.ntmps42
    go_wp2_with fail
    refine (sTableValid_gives _ zs0 _ _ _ V0_0.out).mono ?_; rintro e w1 ⟨rfl, hb⟩
    rw [T0.out]
    have V0_1 := hidH (V0_0.out.below hb)
    have V1_1 := hidH (V1_0.out.below hb)
    have V2_1 := hidH (V2_0.out.below hb)
    have B1 := hidH (hb)
    clear hb
    go_wp2_with fail
    go_ret
    exact ⟨rfl, B1.out⟩
  · have T0 := hidH h0
    clear h0
    rw [Bool.true_and]
    cases h1 : tableOk zs1
    · have T1 := hidH h1
      clear h1
      rw [Bool.false_and]
      go_enter Try.func42, Try.ntmps42
      go_wp2_with fail
      refine (sTableValid_gives _ zs0 _ _ _ V0_0.out).mono ?_; rintro e w1 ⟨rfl, hb⟩
      rw [T0.out]
      have V0_1 := hidH (V0_0.out.below hb)
      have V1_1 := hidH (V1_0.out.below hb)
      have V2_1 := hidH (V2_0.out.below hb)
      have B1 := hidH (hb)
      clear hb
      go_wp2_with fail
      refine (sTableValid_gives _ zs1 _ _ _ V1_1.out).mono ?_; rintro e w2 ⟨rfl, hb⟩
      rw [T1.out]
      have V0_2 := hidH (V0_1.out.below hb)
      have V1_2 := hidH (V1_1.out.below hb)
      have V2_2 := hidH (V2_1.out.below hb)
      have B2 := hidH (bThen B1.out hb)
      clear hb
      go_wp2_with fail
      go_ret
      exact ⟨rfl, B2.out⟩
    · have T1 := hidH h1
      clear h1
      rw [Bool.true_and]
      cases h2 : tableOk zs2
      · have T2 := hidH h2
        clear h2
        rw [Bool.false_and]
        go_enter Try.func42, Try.ntmps42
        go_wp2_with fail
        refine (sTableValid_gives _ zs0 _ _ _ V0_0.out).mono ?_; rintro e w1 ⟨rfl, hb⟩
        rw [T0.out]
        have V0_1 := hidH (V0_0.out.below hb)
        have V1_1 := hidH (V1_0.out.below hb)
        have V2_1 := hidH (V2_0.out.below hb)
        have B1 := hidH (hb)
        clear hb
        go_wp2_with fail
        refine (sTableValid_gives _ zs1 _ _ _ V1_1.out).mono ?_; rintro e w2 ⟨rfl, hb⟩
        rw [T1.out]
        have V0_2 := hidH (V0_1.out.below hb)
        have V1_2 := hidH (V1_1.out.below hb)
        have V2_2 := hidH (V2_1.out.below hb)
        have B2 := hidH (bThen B1.out hb)
        clear hb
        go_wp2_with fail
        refine (sTableValid_gives _ zs2 _ _ _ V2_2.out).mono ?_; rintro e w3 ⟨rfl, hb⟩
        rw [T2.out]
        have V0_3 := hidH (V0_2.out.below hb)
        have V1_3 := hidH (V1_2.out.below hb)
        have V2_3 := hidH (V2_2.out.below hb)
        have B3 := hidH (bThen B2.out hb)
        clear hb
        go_wp2_with fail
        go_ret
        exact ⟨rfl, B3.out⟩
      · have T2 := hidH h2
        clear h2
        rw [Bool.true_and]
        by_cases l0 : zs0.length = zs1.length
        · have e0 : ((zs0.length : Int) == (zs1.length : Int)) = true := by simp [l0]
          rw [decide_eq_true l0, Bool.true_and]
          have L0 := hidH l0
          clear l0
          by_cases l1 : zs0.length = zs2.length
          · have e1 : ((zs0.length : Int) == (zs2.length : Int)) = true := by simp [l1]
            rw [decide_eq_true l1]
            clear l1
            go_enter Try.func42, Try.ntmps42
            go_wp2_with fail
            refine (sTableValid_gives _ zs0 _ _ _ V0_0.out).mono ?_; rintro e w1 ⟨rfl, hb⟩
            rw [T0.out]
            have V0_1 := hidH (V0_0.out.below hb)
            have V1_1 := hidH (V1_0.out.below hb)
            have V2_1 := hidH (V2_0.out.below hb)
            have B1 := hidH (hb)
            clear hb
            go_wp2_with fail
            refine (sTableValid_gives _ zs1 _ _ _ V1_1.out).mono ?_; rintro e w2 ⟨rfl, hb⟩
            rw [T1.out]
            have V0_2 := hidH (V0_1.out.below hb)
            have V1_2 := hidH (V1_1.out.below hb)
            have V2_2 := hidH (V2_1.out.below hb)
            have B2 := hidH (bThen B1.out hb)
            clear hb
            go_wp2_with fail
            refine (sTableValid_gives _ zs2 _ _ _ V2_2.out).mono ?_; rintro e w3 ⟨rfl, hb⟩
            rw [T2.out]
            have V0_3 := hidH (V0_2.out.below hb)
            have V1_3 := hidH (V1_2.out.below hb)
            have V2_3 := hidH (V2_2.out.below hb)
            have B3 := hidH (bThen B2.out hb)
            clear hb
            go_wp2_with fail
            go_ret
            exact ⟨rfl, B3.out⟩
          · have e1 : ((zs0.length : Int) == (zs2.length : Int)) = false := by simp; omega
            rw [decide_eq_false l1]
            clear l1
            go_enter Try.func42, Try.ntmps42
            go_wp2_with fail
            refine (sTableValid_gives _ zs0 _ _ _ V0_0.out).mono ?_; rintro e w1 ⟨rfl, hb⟩
            rw [T0.out]
            have V0_1 := hidH (V0_0.out.below hb)
            have V1_1 := hidH (V1_0.out.below hb)
            have V2_1 := hidH (V2_0.out.below hb)
            have B1 := hidH (hb)
            clear hb
            go_wp2_with fail
            refine (sTableValid_gives _ zs1 _ _ _ V1_1.out).mono ?_; rintro e w2 ⟨rfl, hb⟩
            rw [T1.out]
            have V0_2 := hidH (V0_1.out.below hb)
            have V1_2 := hidH (V1_1.out.below hb)
            have V2_2 := hidH (V2_1.out.below hb)
            have B2 := hidH (bThen B1.out hb)
            clear hb
            go_wp2_with fail
            refine (sTableValid_gives _ zs2 _ _ _ V2_2.out).mono ?_; rintro e w3 ⟨rfl, hb⟩
            rw [T2.out]
            have V0_3 := hidH (V0_2.out.below hb)
            have V1_3 := hidH (V1_2.out.below hb)
            have V2_3 := hidH (V2_2.out.below hb)
            have B3 := hidH (bThen B2.out hb)
            clear hb
            go_wp2_with fail
            go_ret
            exact ⟨rfl, B3.out⟩
        · have e0 : ((zs0.length : Int) == (zs1.length : Int)) = false := by simp; omega
          rw [decide_eq_false l0, Bool.false_and]
          clear l0
          go_enter Try.func42, Try.ntmps42
          go_wp2_with fail
          refine (sTableValid_gives _ zs0 _ _ _ V0_0.out).mono ?_; rintro e w1 ⟨rfl, hb⟩
          rw [T0.out]
          have V0_1 := hidH (V0_0.out.below hb)
          have V1_1 := hidH (V1_0.out.below hb)
          have V2_1 := hidH (V2_0.out.below hb)
          have B1 := hidH (hb)
          clear hb
          go_wp2_with fail
          refine (sTableValid_gives _ zs1 _ _ _ V1_1.out).mono ?_; rintro e w2 ⟨rfl, hb⟩
          rw [T1.out]
          have V0_2 := hidH (V0_1.out.below hb)
          have V1_2 := hidH (V1_1.out.below hb)
          have V2_2 := hidH (V2_1.out.below hb)
          have B2 := hidH (bThen B1.out hb)
          clear hb
          go_wp2_with fail
          refine (sTableValid_gives _ zs2 _ _ _ V2_2.out).mono ?_; rintro e w3 ⟨rfl, hb⟩
          rw [T2.out]
          have V0_3 := hidH (V0_2.out.below hb)
          have V1_3 := hidH (V1_2.out.below hb)
          have V2_3 := hidH (V2_2.out.below hb)
          have B3 := hidH (bThen B2.out hb)
          clear hb
          go_wp2_with fail
          go_ret
          exact ⟨rfl, B3.out⟩
theorem sVote_no (v0 : Value) (zs0 : List Int) (v1 : Value) (zs1 : List Int) (v2 : Value) (zs2 : List Int) (w : World) (lo0 hi0 lo1 hi1 lo2 hi2 : Nat) (hv0 : Lies w lo0 hi0 v0 zs0) (hv1 : Lies w lo1 hi1 v1 zs1) (hv2 : Lies w lo2 hi2 v2 zs2) (h : threeOk zs0 zs1 zs2 = false) : Calls Try.prog 21 #[v0, v1, v2] w (NewRowB [] false w) := by
  have HV0 := hidH hv0
  have HV1 := hidH hv1
  have HV2 := hidH hv2
  have HO := hidH (World.ownsRow_made (base := w.heap.size) (e := 3) (size := 1) w #[] 0 (Nat.le_refl _) (Nat.zero_le _) rfl)
  have HT3 := hidH (fun W' (hb : Below w.heap.size w W') => sThree_any v0 zs0 v1 zs1 v2 zs2 W' lo0 hi0 lo1 hi1 lo2 hi2 (HV0.out.below hb) (HV1.out.below hb) (HV2.out.below hb))
  rw [h] at HT3
  obtain ⟨a0, cap0, rfl, _, _, _, _⟩ := hv0
  clear hv1 hv2 h HV0 HV1 HV2
  go_enter Try.func21, Try.ntmps21
  go_wp2_with fail
  refine (HT3.out _ ((Below.refl _ w).alloc (Nat.le_refl _) (.cells #[] 3))).mono ?_; rintro e w1 ⟨rfl, hb⟩
  have B1 := hidH (bThen (bMore (Below.refl w.heap.size w) (.cells #[] 3)) hb)
  have HO1 := hidH (owns_below HO.out hb)
  clear hb
  go_wp2_with fail
  go_ret2
  exact ⟨_, rfl, Row.nil _ _ _ _ _ (Nat.zero_le _) (fun h => by cases h), B1.out⟩
set_option maxHeartbeats 1600000 in
theorem sVote_some (v0 : Value) (zs0 : List Int) (v1 : Value) (zs1 : List Int) (v2 : Value) (zs2 : List Int) (w : World) (lo0 hi0 lo1 hi1 lo2 hi2 : Nat) (hv0 : Lies w lo0 hi0 v0 zs0) (hv1 : Lies w lo1 hi1 v1 zs1) (hv2 : Lies w lo2 hi2 v2 zs2) (h : threeOk zs0 zs1 zs2 = true) : Calls Try.prog 21 #[v0, v1, v2] w (NewRowB (voteA zs0 zs1 zs2) (voteOk zs0 zs1 zs2) w) := by
  have HV0 := hidH hv0
  have HV1 := hidH hv1
  have HV2 := hidH hv2
  have HO := hidH (World.ownsRow_made (base := w.heap.size) (e := 3) (size := 1) w #[] 0 (Nat.le_refl _) (Nat.zero_le _) rfl)
  have HT3 := hidH (fun W' (hb : Below w.heap.size w W') => sThree_any v0 zs0 v1 zs1 v2 zs2 W' lo0 hi0 lo1 hi1 lo2 hi2 (HV0.out.below hb) (HV1.out.below hb) (HV2.out.below hb))
  rw [h] at HT3
  obtain ⟨k0, k1, k2, l1, l2⟩ := threeOk_parts h
  have HT := hidH h
  have ⟨t1, t2⟩ := tableOk_len _ k0
  obtain ⟨b0, off0, cap0, rfl, hlc0, hcm0, _, _, hbw0, hcell0⟩ := hv0.addr (by omega)
  obtain ⟨b1, off1, cap1, rfl, hlc1, hcm1, _, _, hbw1, hcell1⟩ := hv1.addr (by omega)
  obtain ⟨b2, off2, cap2, rfl, hlc2, hcm2, _, _, hbw2, hcell2⟩ := hv2.addr (by omega)
  unfold maxLen at hcm0 hcm1 hcm2
  have HC0 := hidH hcell0
  have HC1 := hidH hcell1
  have HC2 := hidH hcell2
  have L1 := hidH l1
  have L2 := hidH l2
  have HLL := hidH (voteL_length zs0 zs1 zs2)
  obtain ⟨i0, hi0, hz0, hz1, hz2⟩ := info_parts infoInt
  clear hv0 hv1 hv2 hcell0 hcell1 hcell2 k0 k1 k2 h HV0 HV1 HV2
  rw [← l1] at hlc1 HT3 ⊢
  rw [← l2] at hlc2 HT3 ⊢
  clear l1 l2
  go_enter Try.func21, Try.ntmps21
  go_wp2_with fail
  refine (HT3.out _ ((Below.refl _ w).alloc (Nat.le_refl _) (.cells #[] 3))).mono ?_; rintro e w1 ⟨rfl, hb⟩
  have B1 := hidH (bThen (bMore (Below.refl w.heap.size w) (.cells #[] 3)) hb)
  have HO1 := hidH (owns_below HO.out hb)
  clear hb
  go_wp2_with fail
  go_loopw [8, 9] (fun o i wr => ∃ (k : Nat) (ov : Value), k ≤ zs0.length ∧ i = .int .i64 k ∧ ov = o ∧ (∀ j, j < k → v3 zs0 zs1 zs2 j = true) ∧ wr.ownsRow w.heap.size 3 1 ov k (ints ((voteL zs0 zs1 zs2).take k)) ∧ Below w.heap.size w wr) (fun _ i _ => zs0.length - (intOf i).toNat)
  case atStart => exact ⟨0, _, Nat.zero_le _, rfl, rfl, (fun j h => absurd h (Nat.not_lt_zero _)), HO1.out, B1.out⟩
  case round =>
    obtain ⟨k, ov, hk, rfl, rfl, hag, hown, hb⟩ := hrel
    have HAG := hidH hag
    have HW0 := hidH hown
    have HB0 := hidH hb
    have hszq := hb.size
    clear hag hown hb
    by_cases hlt : k < zs0.length
    · obtain ⟨x, hx⟩ := get_lt zs0 k hlt
      obtain ⟨y, hy⟩ := get_lt zs1 k (by have := L1.out; omega)
      obtain ⟨z, hz⟩ := get_lt zs2 k (by have := L2.out; omega)
      have hcx : wr.cell? ⟨b0, off0 + k, none⟩ = some (.int .i64 x) := by rw [HB0.out.cell (p := ⟨b0, off0 + k, none⟩) hbw0]; exact HC0.out k x hx
      have hcy : wr.cell? ⟨b1, off1 + k, none⟩ = some (.int .i64 y) := by rw [HB0.out.cell (p := ⟨b1, off1 + k, none⟩) hbw1]; exact HC1.out k y hy
      have hcz : wr.cell? ⟨b2, off2 + k, none⟩ = some (.int .i64 z) := by rw [HB0.out.cell (p := ⟨b2, off2 + k, none⟩) hbw2]; exact HC2.out k z hz
      have HX := hidH (ints_snoc _ k _ (voteL_get k x y z hx hy hz))
      have H3 := hidH (v3_at k x y z hx hy hz)
      have HN := hidH (agree_not k hlt x y z hx hy hz)
      clear hx hy hz
      cases e1 : (x == y)
      · cases e2 : (x == z)
        · cases e3 : (y == z)
          · have ⟨f1, f2⟩ := vote_not (HN.out (by rw [majOk, e1, e2, e3]; rfl))
            rw [f1, f2]
            clear f1 f2
            go_wp2_with fail
            go_quiet (fail)
            go_wp2_with fail
            go_quiet (fail)
            go_wp2_with fail
            go_ret2
            exact ⟨_, rfl, Row.nil _ _ _ _ _ (Nat.zero_le _) (fun h => by cases h), bMore (by first | exact below_drewN HB0.out _ | exact below_drewN (below_drewN HB0.out _) _) _⟩
          · have hmv : majV x y z = y := by rw [majV, e1, e2]; rfl
            rw [hmv] at HX
            rw [show majOk x y z = true by rw [majOk, e1, e2, e3]; rfl] at H3
            clear hmv
            go_wp2_with fail
            go_quiet (fail)
            go_wp2_with fail
            have hd := below_drewN (Below.refl wr.heap.size wr) nq
            have HW1 := hidH (owns_below HW0.out hd)
            have HB1 := hidH (bThen HB0.out hd)
            have hcx2 : (wr.drewN nq).cell? ⟨b0, off0 + k, none⟩ = some (.int .i64 x) := by rw [World.cell?_drewN]; exact hcx
            have hcy2 : (wr.drewN nq).cell? ⟨b1, off1 + k, none⟩ = some (.int .i64 y) := by rw [World.cell?_drewN]; exact hcy
            have hcz2 : (wr.drewN nq).cell? ⟨b2, off2 + k, none⟩ = some (.int .i64 z) := by rw [World.cell?_drewN]; exact hcz
            clear hcx hcy hcz hd
            generalize wr.drewN nq = wq at *
            have hcx := hcx2
            have hcy := hcy2
            have hcz := hcz2
            clear hcx2 hcy2 hcz2
            have hsz1 := HB1.out.size
            go_quiet (fail)
            have hd := below_drewN (Below.refl wq.heap.size wq) nq
            have HW2 := hidH (owns_below HW1.out hd)
            have HB2 := hidH (bThen HB1.out hd)
            have hcx2 : (wq.drewN nq).cell? ⟨b0, off0 + k, none⟩ = some (.int .i64 x) := by rw [World.cell?_drewN]; exact hcx
            have hcy2 : (wq.drewN nq).cell? ⟨b1, off1 + k, none⟩ = some (.int .i64 y) := by rw [World.cell?_drewN]; exact hcy
            have hcz2 : (wq.drewN nq).cell? ⟨b2, off2 + k, none⟩ = some (.int .i64 z) := by rw [World.cell?_drewN]; exact hcz
            clear hcx hcy hcz hd
            generalize wq.drewN nq = wp at *
            have hcx := hcx2
            have hcy := hcy2
            have hcz := hcz2
            clear hcx2 hcy2 hcz2
            have hsz2 := HB2.out.size
            go_wp2_with (at_builtin; refine wpList_append_own _ rfl _ _ 23 rfl w.heap.size 3 i0 (.int .i64 0) 1 8 Try.underlying23 hi0 hz0 hz1 hz2 rfl (by decide) _ _ _ rfl (owns_below HW2.out ((Below.refl _ wp).alloc (Nat.le_refl _) _)) ⟨wp.heap.size, 0, none⟩ 1 1 [.int .i64 y] rfl rfl (news_one wp _ _) (one_one _) (by unfold maxLen; omega) (by omega) (by simp; omega) ?_)
            intro v' w9 hown1 hgrow _
            have HR := hidH hown1
            have HG := hidH hgrow
            clear hown1 hgrow
            go_wp2_with fail
            go_roundw
            case rel =>
              refine ⟨k + 1, v', by omega, by go_num, rfl, fun j hj => ?_, ?_, ?_⟩
              · by_cases e : j = k
                · subst e; exact H3.out
                · exact HAG.out j (by omega)
              · have h := HR.out
                rw [HX.out] at h
                exact h
              · exact (HB2.out.alloc HB2.out.size _).grown HG.out (by simp; omega) fun g hg => (HW2.out.lt g hg).1
            case measure => simp [intOf]; omega
        · have hmv : majV x y z = x := by rw [majV, e1, e2]; rfl
          rw [hmv] at HX
          rw [show majOk x y z = true by rw [majOk, e1, e2]; rfl] at H3
          clear hmv
          go_wp2_with fail
          go_quiet (fail)
          have hd := below_drewN (Below.refl wr.heap.size wr) nq
          have HW1 := hidH (owns_below HW0.out hd)
          have HB1 := hidH (bThen HB0.out hd)
          have hcx2 : (wr.drewN nq).cell? ⟨b0, off0 + k, none⟩ = some (.int .i64 x) := by rw [World.cell?_drewN]; exact hcx
          have hcy2 : (wr.drewN nq).cell? ⟨b1, off1 + k, none⟩ = some (.int .i64 y) := by rw [World.cell?_drewN]; exact hcy
          have hcz2 : (wr.drewN nq).cell? ⟨b2, off2 + k, none⟩ = some (.int .i64 z) := by rw [World.cell?_drewN]; exact hcz
          clear hcx hcy hcz hd
          generalize wr.drewN nq = wq at *
          have hcx := hcx2
          have hcy := hcy2
          have hcz := hcz2
          clear hcx2 hcy2 hcz2
          have hsz1 := HB1.out.size
          go_wp2_with (at_builtin; refine wpList_append_own _ rfl _ _ 23 rfl w.heap.size 3 i0 (.int .i64 0) 1 8 Try.underlying23 hi0 hz0 hz1 hz2 rfl (by decide) _ _ _ rfl (owns_below HW1.out ((Below.refl _ wq).alloc (Nat.le_refl _) _)) ⟨wq.heap.size, 0, none⟩ 1 1 [.int .i64 x] rfl rfl (news_one wq _ _) (one_one _) (by unfold maxLen; omega) (by omega) (by simp; omega) ?_)
          intro v' w9 hown1 hgrow _
          have HR := hidH hown1
          have HG := hidH hgrow
          clear hown1 hgrow
          go_wp2_with fail
          go_roundw
          case rel =>
            refine ⟨k + 1, v', by omega, by go_num, rfl, fun j hj => ?_, ?_, ?_⟩
            · by_cases e : j = k
              · subst e; exact H3.out
              · exact HAG.out j (by omega)
            · have h := HR.out
              rw [HX.out] at h
              exact h
            · exact (HB1.out.alloc HB1.out.size _).grown HG.out (by simp; omega) fun g hg => (HW1.out.lt g hg).1
          case measure => simp [intOf]; omega
      · have hmv : majV x y z = x := by rw [majV, e1]; rfl
        rw [hmv] at HX
        rw [show majOk x y z = true by rw [majOk, e1]; rfl] at H3
        clear hmv
        go_wp2_with fail
        go_quiet (fail)
        have hd := below_drewN (Below.refl wr.heap.size wr) nq
        have HW1 := hidH (owns_below HW0.out hd)
        have HB1 := hidH (bThen HB0.out hd)
        have hcx2 : (wr.drewN nq).cell? ⟨b0, off0 + k, none⟩ = some (.int .i64 x) := by rw [World.cell?_drewN]; exact hcx
        have hcy2 : (wr.drewN nq).cell? ⟨b1, off1 + k, none⟩ = some (.int .i64 y) := by rw [World.cell?_drewN]; exact hcy
        have hcz2 : (wr.drewN nq).cell? ⟨b2, off2 + k, none⟩ = some (.int .i64 z) := by rw [World.cell?_drewN]; exact hcz
        clear hcx hcy hcz hd
        generalize wr.drewN nq = wq at *
        have hcx := hcx2
        have hcy := hcy2
        have hcz := hcz2
        clear hcx2 hcy2 hcz2
        have hsz1 := HB1.out.size
        go_wp2_with (at_builtin; refine wpList_append_own _ rfl _ _ 23 rfl w.heap.size 3 i0 (.int .i64 0) 1 8 Try.underlying23 hi0 hz0 hz1 hz2 rfl (by decide) _ _ _ rfl (owns_below HW1.out ((Below.refl _ wq).alloc (Nat.le_refl _) _)) ⟨wq.heap.size, 0, none⟩ 1 1 [.int .i64 x] rfl rfl (news_one wq _ _) (one_one _) (by unfold maxLen; omega) (by omega) (by simp; omega) ?_)
        intro v' w9 hown1 hgrow _
        have HR := hidH hown1
        have HG := hidH hgrow
        clear hown1 hgrow
        go_wp2_with fail
        go_roundw
        case rel =>
          refine ⟨k + 1, v', by omega, by go_num, rfl, fun j hj => ?_, ?_, ?_⟩
          · by_cases e : j = k
            · subst e; exact H3.out
            · exact HAG.out j (by omega)
          · have h := HR.out
            rw [HX.out] at h
            exact h
          · exact (HB1.out.alloc HB1.out.size _).grown HG.out (by simp; omega) fun g hg => (HW1.out.lt g hg).1
        case measure => simp [intOf]; omega
    · obtain rfl : k = zs0.length := by omega
      have HE1 := hidH (vote_yes HT.out (agree_of HAG.out)).1
      have HE2 := hidH (vote_yes HT.out (agree_of HAG.out)).2
      have h := HW0.out
      rw [List.take_of_length_le (by rw [HLL.out]; exact Nat.le_refl _)] at h
      have HRW := hidH (row_of_owns h).1
      clear h
      go_wp2_with fail
      go_ret2
      rw [HE1.out, HE2.out]
      exact ⟨_, rfl, HRW.out, HB0.out⟩
theorem sVote_any (v0 : Value) (zs0 : List Int) (v1 : Value) (zs1 : List Int) (v2 : Value) (zs2 : List Int) (w : World) (lo0 hi0 lo1 hi1 lo2 hi2 : Nat) (hv0 : Lies w lo0 hi0 v0 zs0) (hv1 : Lies w lo1 hi1 v1 zs1) (hv2 : Lies w lo2 hi2 v2 zs2) : Calls Try.prog 21 #[v0, v1, v2] w (NewRowB (voteA zs0 zs1 zs2) (voteOk zs0 zs1 zs2) w) := by
  cases h : threeOk zs0 zs1 zs2
  · have e : voteOk zs0 zs1 zs2 = false := by rw [voteOk, h]; rfl
    rw [voteA, e]
    exact sVote_no v0 zs0 v1 zs1 v2 zs2 w lo0 hi0 lo1 hi1 lo2 hi2 hv0 hv1 hv2 h
  · exact sVote_some v0 zs0 v1 zs1 v2 zs2 w lo0 hi0 lo1 hi1 lo2 hi2 hv0 hv1 hv2 h
end Go.Proofs.Ythinpmhoklehaaa
