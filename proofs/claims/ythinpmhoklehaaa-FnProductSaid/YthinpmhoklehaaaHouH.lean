/-
  ProductOf: the model, at every argument. No conditions but that slices fit in memory.
-/
import Derived.Test.YthinpmhoklehaaaHouG
namespace Go.Proofs.Ythinpmhoklehaaa
set_option maxRecDepth 4000
open Go.RowKit
theorem sEntry_in (v : Value) (zs : List Int) (k : Nat) (z : Int) (w : World) (lo hi : Nat) (hv : Lies w lo hi v zs) (hz : zs[k]? = some z) (hl : zs.length ≤ 1048576) : Calls Try.prog 35 #[v, .int .i64 k] w fun e w' => e = .returned (.tuple #[.int .i64 z, .bool true]) ∧ w' = w := by
  have hk := (List.getElem?_eq_some_iff.1 hz).1
  obtain ⟨b0, off0, cap, rfl, hlc, hcm, _, _, hbw, hcell⟩ := hv.addr (by omega)
  unfold maxLen at hcm
  have hc := hcell k z hz
  clear hcell hz
  go_enter Try.func35, Try.ntmps35
  go_wp2_with fail
  go_ret2
  exact ⟨rfl, rfl⟩
theorem sEntry_out (v : Value) (zs : List Int) (k : Nat) (w : World) (lo hi : Nat) (hv : Lies w lo hi v zs) (hk : zs.length ≤ k) (_ : k ≤ 1000) : Calls Try.prog 35 #[v, .int .i64 k] w fun e w' => e = .returned (.tuple #[.int .i64 0, .bool false]) ∧ w' = w := by
  obtain ⟨a0, cap0, rfl, hlc0, hcm0, hnil0, hcell0⟩ := hv
  unfold maxLen at hcm0
  clear hnil0 hcell0
  go_enter Try.func35, Try.ntmps35
  go_wp2_with fail
  go_ret2
  exact ⟨rfl, rfl⟩
theorem sProd_no (v0 : Value) (zs0 : List Int) (n1 : Int) (n2 : Int) (w : World) (lo0 hi0 : Nat) (hv0 : Lies w lo0 hi0 v0 zs0) (h : (((tableOk zs0) && ((qrtOk n1) && (qrtOk n2)))) = false) : Calls Try.prog 17 #[v0, .int .i64 n1, .int .i64 n2] w (Gives (.tuple #[.int .i64 0, .bool false]) w) := by
  have HV0_0 := hidH hv0
  obtain ⟨a0, cap0, rfl, hlc0, hcm0, hnil0, hcell0⟩ := hv0
  clear hnil0 hcell0
  unfold maxLen at hcm0
  have HB0 := hidH (Below.refl w.heap.size w)
  cases hc0 : tableOk zs0
  · have HC0 := hidH hc0
    clear h hc0
    go_enter Try.func17, Try.ntmps17
    go_wp2_with fail
    refine (sTableValid_gives _ zs0 _ _ _ HV0_0.out).mono ?_; rintro e w1 ⟨rfl, hb⟩
    have HV0_1 := hidH (HV0_0.out.below hb)
    clear HV0_0
    have HB1 := hidH (HB0.out.trans (hb.mono HB0.out.size))
    clear hb HB0
    rw [HC0.out]
    go_wp2_with fail
    go_ret2
    exact ⟨rfl, HB1.out⟩
  · rw [hc0, Bool.true_and] at h
    have HC0 := hidH hc0
    clear hc0
    cases hc1 : qrtOk n1
    · have HC1 := hidH hc1
      clear h hc1
      go_enter Try.func17, Try.ntmps17
      go_wp2_with fail
      refine (sTableValid_gives _ zs0 _ _ _ HV0_0.out).mono ?_; rintro e w1 ⟨rfl, hb⟩
      have HV0_1 := hidH (HV0_0.out.below hb)
      clear HV0_0
      have HB1 := hidH (HB0.out.trans (hb.mono HB0.out.size))
      clear hb HB0
      rw [HC0.out]
      go_wp2_with fail
      refine (sIn_any n1 0 59 (qrtOk n1) rfl _).mono ?_; rintro e w_ ⟨rfl, rfl⟩
      rw [HC1.out]
      go_wp2_with fail
      go_ret2
      exact ⟨rfl, HB1.out⟩
    · rw [hc1, Bool.true_and] at h
      have HC1 := hidH hc1
      clear hc1
      · have HC2 := hidH h
        clear h
        go_enter Try.func17, Try.ntmps17
        go_wp2_with fail
        refine (sTableValid_gives _ zs0 _ _ _ HV0_0.out).mono ?_; rintro e w1 ⟨rfl, hb⟩
        have HV0_1 := hidH (HV0_0.out.below hb)
        clear HV0_0
        have HB1 := hidH (HB0.out.trans (hb.mono HB0.out.size))
        clear hb HB0
        rw [HC0.out]
        go_wp2_with fail
        refine (sIn_any n1 0 59 (qrtOk n1) rfl _).mono ?_; rintro e w_ ⟨rfl, rfl⟩
        rw [HC1.out]
        go_wp2_with fail
        refine (sIn_any n2 0 59 (qrtOk n2) rfl _).mono ?_; rintro e w_ ⟨rfl, rfl⟩
        rw [HC2.out]
        go_wp2_with fail
        go_ret2
        exact ⟨rfl, HB1.out⟩
set_option maxHeartbeats 800000 in
theorem sProd_yes (v0 : Value) (zs0 : List Int) (n1 n2 : Int) (w : World) (lo0 hi0 : Nat) (hv0 : Lies w lo0 hi0 v0 zs0) (hc0 : tableOk zs0 = true) (hc1 : qrtOk n1 = true) (hc2 : qrtOk n2 = true) (hc3 : decide (n1 + n2 < (zs0.length : Int)) = true) : Calls Try.prog 17 #[v0, .int .i64 n1, .int .i64 n2] w (Gives (.tuple #[.int .i64 (prodV zs0 n1 n2), .bool true]) w) := by
  have HV := hidH hv0
  have ⟨t1, t2⟩ := tableOk_len _ hc0
  have HTL := hidH (show zs0.length ≤ 1048576 by omega)
  have HT := hidH hc0
  obtain ⟨x, rfl, hx⟩ := qrt_nat hc1
  obtain ⟨y, rfl, hy⟩ := qrt_nat hc2
  obtain ⟨p, hp⟩ : ∃ p, p = x + y := ⟨_, rfl⟩
  obtain ⟨q, hq⟩ : ∃ q, q = if x < y then y - x else x - y := ⟨_, rfl⟩
  have hqp : q ≤ p := by rw [hq]; split <;> omega
  have H1 := hidH (fun W' => sIn_any (x : Int) 0 59 (qrtOk (x : Int)) rfl W')
  have H2 := hidH (fun W' => sIn_any (y : Int) 0 59 (qrtOk (y : Int)) rfl W')
  rw [hc1] at H1
  rw [hc2] at H2
  have hpi : (x : Int) + (y : Int) = (p : Int) := by omega
  have hp118 : p ≤ 118 := by omega
  have h3 := of_decide_eq_true hc3
  have hpl : p < zs0.length := by omega
  obtain ⟨a, ha⟩ := get_lt zs0 p hpl
  obtain ⟨b, hb⟩ := get_lt zs0 q (by omega)
  have ⟨a1, a2⟩ := tab_bd hc0 ha
  have ⟨b1, b2⟩ := tab_bd hc0 hb
  rw [prodV_nat zs0 x y p q a b hp hq ha hb]
  have HA := hidH ha
  have HBb := hidH hb
  clear hv0 ha hb hc0 hc1 hc2 hc3 hp h3
  by_cases hxy : x < y
  · have hqi : (y : Int) - (x : Int) = (q : Int) := by rw [if_pos hxy] at hq; omega
    have hqj : (x : Int) - (y : Int) = -(q : Int) := by omega
    have hmx : max (-(q : Int)) (q : Int) = (q : Int) := by omega
    clear hq
    go_enter Try.func17, Try.ntmps17
    go_wp2_with fail
    refine (sTableValid_gives _ zs0 _ _ _ HV.out).mono ?_; rintro e w1 ⟨rfl, hb⟩
    rw [HT.out]
    have HB := hidH hb
    have HV1 := hidH (HV.out.below hb)
    clear hb
    go_wp2_with fail
    refine (H1.out _).mono ?_; rintro e w_ ⟨rfl, rfl⟩
    go_wp2_with fail
    refine (H2.out _).mono ?_; rintro e w_ ⟨rfl, rfl⟩
    go_wp2_with fail
    refine (sEntry_in _ zs0 p a _ _ _ HV1.out HA.out HTL.out).mono ?_; rintro e w_ ⟨rfl, rfl⟩
    go_wp2_with fail
    refine (sEntry_in _ zs0 q b _ _ _ HV1.out HBb.out HTL.out).mono ?_; rintro e w_ ⟨rfl, rfl⟩
    go_wp2_with fail
    go_ret2
    exact ⟨rfl, HB.out⟩
  · have hqi : (x : Int) - (y : Int) = (q : Int) := by rw [if_neg hxy] at hq; omega
    have hqj : (y : Int) - (x : Int) = -(q : Int) := by omega
    have hmx : max (q : Int) (-(q : Int)) = (q : Int) := by omega
    clear hq
    go_enter Try.func17, Try.ntmps17
    go_wp2_with fail
    refine (sTableValid_gives _ zs0 _ _ _ HV.out).mono ?_; rintro e w1 ⟨rfl, hb⟩
    rw [HT.out]
    have HB := hidH hb
    have HV1 := hidH (HV.out.below hb)
    clear hb
    go_wp2_with fail
    refine (H1.out _).mono ?_; rintro e w_ ⟨rfl, rfl⟩
    go_wp2_with fail
    refine (H2.out _).mono ?_; rintro e w_ ⟨rfl, rfl⟩
    go_wp2_with fail
    refine (sEntry_in _ zs0 p a _ _ _ HV1.out HA.out HTL.out).mono ?_; rintro e w_ ⟨rfl, rfl⟩
    go_wp2_with fail
    refine (sEntry_in _ zs0 q b _ _ _ HV1.out HBb.out HTL.out).mono ?_; rintro e w_ ⟨rfl, rfl⟩
    go_wp2_with fail
    go_ret2
    exact ⟨rfl, HB.out⟩
set_option maxHeartbeats 800000 in
theorem sProd_out (v0 : Value) (zs0 : List Int) (n1 n2 : Int) (w : World) (lo0 hi0 : Nat) (hv0 : Lies w lo0 hi0 v0 zs0) (hc0 : tableOk zs0 = true) (hc1 : qrtOk n1 = true) (hc2 : qrtOk n2 = true) (hc3 : decide (n1 + n2 < (zs0.length : Int)) = false) : Calls Try.prog 17 #[v0, .int .i64 n1, .int .i64 n2] w (Gives (.tuple #[.int .i64 0, .bool false]) w) := by
  have HV := hidH hv0
  have ⟨t1, t2⟩ := tableOk_len _ hc0
  have HTL := hidH (show zs0.length ≤ 1048576 by omega)
  have HT := hidH hc0
  obtain ⟨x, rfl, hx⟩ := qrt_nat hc1
  obtain ⟨y, rfl, hy⟩ := qrt_nat hc2
  obtain ⟨p, hp⟩ : ∃ p, p = x + y := ⟨_, rfl⟩
  obtain ⟨q, hq⟩ : ∃ q, q = if x < y then y - x else x - y := ⟨_, rfl⟩
  have hqp : q ≤ p := by rw [hq]; split <;> omega
  have H1 := hidH (fun W' => sIn_any (x : Int) 0 59 (qrtOk (x : Int)) rfl W')
  have H2 := hidH (fun W' => sIn_any (y : Int) 0 59 (qrtOk (y : Int)) rfl W')
  rw [hc1] at H1
  rw [hc2] at H2
  have hpi : (x : Int) + (y : Int) = (p : Int) := by omega
  have hp118 : p ≤ 118 := by omega
  have h3 := of_decide_eq_false hc3
  have hpl : zs0.length ≤ p := by omega
  have HQ := hidH (show (∃ b, zs0[q]? = some b) ∨ zs0.length ≤ q from (Nat.lt_or_ge q zs0.length).imp (fun h => get_lt zs0 q h) id)
  clear hv0 hc0 hc1 hc2 hc3 hp h3
  by_cases hxy : x < y
  · have hqi : (y : Int) - (x : Int) = (q : Int) := by rw [if_pos hxy] at hq; omega
    have hqj : (x : Int) - (y : Int) = -(q : Int) := by omega
    have hmx : max (-(q : Int)) (q : Int) = (q : Int) := by omega
    clear hq
    go_enter Try.func17, Try.ntmps17
    go_wp2_with fail
    refine (sTableValid_gives _ zs0 _ _ _ HV.out).mono ?_; rintro e w1 ⟨rfl, hb⟩
    rw [HT.out]
    have HB := hidH hb
    have HV1 := hidH (HV.out.below hb)
    clear hb
    go_wp2_with fail
    refine (H1.out _).mono ?_; rintro e w_ ⟨rfl, rfl⟩
    go_wp2_with fail
    refine (H2.out _).mono ?_; rintro e w_ ⟨rfl, rfl⟩
    go_wp2_with fail
    refine (sEntry_out _ zs0 p _ _ _ HV1.out (by omega) (by omega)).mono ?_; rintro e w_ ⟨rfl, rfl⟩
    go_wp2_with fail
    rcases HQ.out with ⟨b, hb⟩ | hb
    · refine (sEntry_in _ zs0 q b _ _ _ HV1.out hb HTL.out).mono ?_; rintro e w_ ⟨rfl, rfl⟩
      go_wp2_with fail
      go_ret2
      exact ⟨rfl, HB.out⟩
    · refine (sEntry_out _ zs0 q _ _ _ HV1.out hb (by omega)).mono ?_; rintro e w_ ⟨rfl, rfl⟩
      go_wp2_with fail
      go_ret2
      exact ⟨rfl, HB.out⟩
  · have hqi : (x : Int) - (y : Int) = (q : Int) := by rw [if_neg hxy] at hq; omega
    have hqj : (y : Int) - (x : Int) = -(q : Int) := by omega
    have hmx : max (q : Int) (-(q : Int)) = (q : Int) := by omega
    clear hq
    go_enter Try.func17, Try.ntmps17
    go_wp2_with fail
    refine (sTableValid_gives _ zs0 _ _ _ HV.out).mono ?_; rintro e w1 ⟨rfl, hb⟩
    rw [HT.out]
    have HB := hidH hb
    have HV1 := hidH (HV.out.below hb)
    clear hb
    go_wp2_with fail
    refine (H1.out _).mono ?_; rintro e w_ ⟨rfl, rfl⟩
    go_wp2_with fail
    refine (H2.out _).mono ?_; rintro e w_ ⟨rfl, rfl⟩
    go_wp2_with fail
    refine (sEntry_out _ zs0 p _ _ _ HV1.out (by omega) (by omega)).mono ?_; rintro e w_ ⟨rfl, rfl⟩
    go_wp2_with fail
    rcases HQ.out with ⟨b, hb⟩ | hb
    · refine (sEntry_in _ zs0 q b _ _ _ HV1.out hb HTL.out).mono ?_; rintro e w_ ⟨rfl, rfl⟩
      go_wp2_with fail
      go_ret2
      exact ⟨rfl, HB.out⟩
    · refine (sEntry_out _ zs0 q _ _ _ HV1.out hb (by omega)).mono ?_; rintro e w_ ⟨rfl, rfl⟩
      go_wp2_with fail
      go_ret2
      exact ⟨rfl, HB.out⟩
theorem sProd_any (v0 : Value) (zs0 : List Int) (n1 n2 : Int) (w : World) (lo0 hi0 : Nat) (hv0 : Lies w lo0 hi0 v0 zs0) : Calls Try.prog 17 #[v0, .int .i64 n1, .int .i64 n2] w (Gives (.tuple #[.int .i64 (prodA zs0 n1 n2), .bool (prodOk zs0 n1 n2)]) w) := by
  unfold prodA
  cases h : ((tableOk zs0) && ((qrtOk n1) && (qrtOk n2)))
  · have e : prodOk zs0 n1 n2 = false := by
      unfold prodOk
      cases h0 : tableOk zs0
      · rfl
      · cases h1 : qrtOk n1
        · rfl
        · cases h2 : qrtOk n2
          · rfl
          · rw [h0, h1, h2] at h; cases h
    rw [e]
    exact sProd_no v0 zs0 n1 n2 w lo0 hi0 hv0 h
  · simp only [Bool.and_eq_true] at h
    obtain ⟨h0, h1, h2⟩ := h
    cases h3 : decide (n1 + n2 < (zs0.length : Int))
    · have e : prodOk zs0 n1 n2 = false := by unfold prodOk; rw [h3]; simp
      rw [e]
      exact sProd_out v0 zs0 n1 n2 w lo0 hi0 hv0 h0 h1 h2 h3
    · have e : prodOk zs0 n1 n2 = true := by unfold prodOk; rw [h0, h1, h2, h3]; rfl
      rw [e]
      exact sProd_yes v0 zs0 n1 n2 w lo0 hi0 hv0 h0 h1 h2 h3
end Go.Proofs.Ythinpmhoklehaaa
