/-
  ProductOf: the program, at every argument. No conditions but that slices fit in memory.
-/
import Derived.Test.YthinpmhoklehaaaHouB
import Derived.Test.YthinpmhoklehaaaErrC
import Derived.BigRegion
namespace Go.Proofs.Ythinpmhoklehaaa
set_option maxRecDepth 4000
open Go.RowKit
/-- A product can be read off a table. -/
def prodOk (T : List Int) (x y : Int) : Bool := tableOk T && (qrtOk x && (qrtOk y && decide (x + y < (T.length : Int))))
/-- What ProductOf answers. -/
def prodV (T : List Int) (x y : Int) : Int := T.getD (x + y).toNat 0 - T.getD (if x < y then y - x else x - y).toNat 0
def prodA (T : List Int) (x y : Int) : Int := if prodOk T x y then prodV T x y else 0
theorem qrt_nat {x : Int} (h : qrtOk x = true) : ∃ n : Nat, x = (n : Int) ∧ n ≤ 59 := by
  have ⟨a, b⟩ := of_decide_eq_true h
  exact ⟨x.toNat, by omega, by omega⟩
theorem getD_some {T : List Int} {k : Nat} {a : Int} (h : T[k]? = some a) : T.getD k 0 = a := by rw [List.getD_eq_getElem?_getD, h]; rfl
theorem prodV_nat (T : List Int) (x y p q : Nat) (a b : Int) (hp : p = x + y) (hq : q = if x < y then y - x else x - y) (ha : T[p]? = some a) (hb : T[q]? = some b) : prodV T (x : Int) (y : Int) = a - b := by
  unfold prodV
  rw [show ((x : Int) + (y : Int)).toNat = p by omega, getD_some ha]
  by_cases c : x < y
  · rw [if_pos (show (x : Int) < (y : Int) by omega), show ((y : Int) - (x : Int)).toNat = q by rw [if_pos c] at hq; omega, getD_some hb]
  · rw [if_neg (show ¬ (x : Int) < (y : Int) by omega), show ((x : Int) - (y : Int)).toNat = q by rw [if_neg c] at hq; omega, getD_some hb]
theorem prod_no (v0 : Value) (zs0 : List Int) (n1 : Int) (n2 : Int) (w : World) (lo0 hi0 : Nat) (hv0 : Lies w lo0 hi0 v0 zs0) (h : (((tableOk zs0) && ((qrtOk n1) && ((qrtOk n2) && (decide (n1 + n2 < (zs0.length : Int))))))) = false) : Calls Try.prog 16 #[v0, .int .i64 n1, .int .i64 n2] w (Gives (.tuple #[.int .i64 0, .bool false]) w) := by
  have HV0_0 := hidH hv0
  obtain ⟨a0, cap0, rfl, hlc0, hcm0, hnil0, hcell0⟩ := hv0
  clear hnil0 hcell0
  unfold maxLen at hcm0
  have HB0 := hidH (Below.refl w.heap.size w)
  cases hc0 : tableOk zs0
  · have HC0 := hidH hc0
    clear h hc0
    go_enter Try.func16, Try.ntmps16
    go_wp2_with fail
    refine (tableValid_any _ zs0 _ _ _ HV0_0.out).mono ?_; rintro e w1 ⟨rfl, hb⟩
    have HV0_1 := hidH (HV0_0.out.below hb)
    clear HV0_0
    have HB1 := hidH (HB0.out.trans (hb.mono HB0.out.size))
    clear hb HB0
    rw [HC0.out]
    go_wp2_with fail
    go_ret2
    exact ⟨rfl, HB1.out⟩
  · rw [hc0, Bool.true_and] at h
    have HC0 := hidH hc0
    clear hc0
    cases hc1 : qrtOk n1
    · have HC1 := hidH hc1
      clear h hc1
      go_enter Try.func16, Try.ntmps16
      go_wp2_with fail
      refine (tableValid_any _ zs0 _ _ _ HV0_0.out).mono ?_; rintro e w1 ⟨rfl, hb⟩
      have HV0_1 := hidH (HV0_0.out.below hb)
      clear HV0_0
      have HB1 := hidH (HB0.out.trans (hb.mono HB0.out.size))
      clear hb HB0
      rw [HC0.out]
      go_wp2_with fail
      refine (between_any n1 0 59 (qrtOk n1) rfl _).mono ?_; rintro e w_ ⟨rfl, rfl⟩
      rw [HC1.out]
      go_wp2_with fail
      go_ret2
      exact ⟨rfl, HB1.out⟩
    · rw [hc1, Bool.true_and] at h
      have HC1 := hidH hc1
      clear hc1
      cases hc2 : qrtOk n2
      · have HC2 := hidH hc2
        clear h hc2
        go_enter Try.func16, Try.ntmps16
        go_wp2_with fail
        refine (tableValid_any _ zs0 _ _ _ HV0_0.out).mono ?_; rintro e w1 ⟨rfl, hb⟩
        have HV0_1 := hidH (HV0_0.out.below hb)
        clear HV0_0
        have HB1 := hidH (HB0.out.trans (hb.mono HB0.out.size))
        clear hb HB0
        rw [HC0.out]
        go_wp2_with fail
        refine (between_any n1 0 59 (qrtOk n1) rfl _).mono ?_; rintro e w_ ⟨rfl, rfl⟩
        rw [HC1.out]
        go_wp2_with fail
        refine (between_any n2 0 59 (qrtOk n2) rfl _).mono ?_; rintro e w_ ⟨rfl, rfl⟩
        rw [HC2.out]
        go_wp2_with fail
        go_ret2
        exact ⟨rfl, HB1.out⟩
      · rw [hc2, Bool.true_and] at h
        have HC2 := hidH hc2
        clear hc2
        · have HC3 := hidH h
          clear h
          have hcc := of_decide_eq_false HC3.out
          have ⟨xx1, xx2⟩ := of_decide_eq_true HC1.out
          have ⟨yy1, yy2⟩ := of_decide_eq_true HC2.out
          have hcf : (zs0.length : Int) ≤ n1 + n2 := by omega
          clear hcc
          go_enter Try.func16, Try.ntmps16
          go_wp2_with fail
          refine (tableValid_any _ zs0 _ _ _ HV0_0.out).mono ?_; rintro e w1 ⟨rfl, hb⟩
          have HV0_1 := hidH (HV0_0.out.below hb)
          clear HV0_0
          have HB1 := hidH (HB0.out.trans (hb.mono HB0.out.size))
          clear hb HB0
          rw [HC0.out]
          go_wp2_with fail
          refine (between_any n1 0 59 (qrtOk n1) rfl _).mono ?_; rintro e w_ ⟨rfl, rfl⟩
          rw [HC1.out]
          go_wp2_with fail
          refine (between_any n2 0 59 (qrtOk n2) rfl _).mono ?_; rintro e w_ ⟨rfl, rfl⟩
          rw [HC2.out]
          go_wp2_with fail
          go_ret2
          exact ⟨rfl, HB1.out⟩
theorem prod_yes (v0 : Value) (zs0 : List Int) (n1 n2 : Int) (w : World) (lo0 hi0 : Nat) (hv0 : Lies w lo0 hi0 v0 zs0) (hc0 : tableOk zs0 = true) (hc1 : qrtOk n1 = true) (hc2 : qrtOk n2 = true) (hc3 : decide (n1 + n2 < (zs0.length : Int)) = true) : Calls Try.prog 16 #[v0, .int .i64 n1, .int .i64 n2] w (Gives (.tuple #[.int .i64 (prodV zs0 n1 n2), .bool true]) w) := by
  have HV := hidH hv0
  have ⟨t1, t2⟩ := tableOk_len _ hc0
  have HT := hidH hc0
  have h3 := of_decide_eq_true hc3
  obtain ⟨x, rfl, hx⟩ := qrt_nat hc1
  obtain ⟨y, rfl, hy⟩ := qrt_nat hc2
  obtain ⟨p, hp⟩ : ∃ p, p = x + y := ⟨_, rfl⟩
  obtain ⟨q, hq⟩ : ∃ q, q = if x < y then y - x else x - y := ⟨_, rfl⟩
  have hqp : q ≤ p := by rw [hq]; split <;> omega
  have hpl : p < zs0.length := by omega
  obtain ⟨a, ha⟩ := get_lt zs0 p hpl
  obtain ⟨b, hb⟩ := get_lt zs0 q (by omega)
  have ⟨a1, a2⟩ := tab_bd hc0 ha
  have ⟨b1, b2⟩ := tab_bd hc0 hb
  rw [prodV_nat zs0 x y p q a b hp hq ha hb]
  obtain ⟨b0, off0, cap, rfl, hlc, hcm, _, _, hbw, hcell⟩ := hv0.addr (by omega)
  unfold maxLen at hcm
  have hca := hcell p a ha
  have hcb := hcell q b hb
  have HCA := hidH hca
  have HCB := hidH hcb
  have H1 := hidH (fun W' => between_any (x : Int) 0 59 (qrtOk (x : Int)) rfl W')
  have H2 := hidH (fun W' => between_any (y : Int) 0 59 (qrtOk (y : Int)) rfl W')
  rw [hc1] at H1
  rw [hc2] at H2
  have hpi : (x : Int) + (y : Int) = (p : Int) := by omega
  clear hv0 hcell hca hcb ha hb hc0 hc1 hc2 hc3 hp h3
  by_cases hxy : x < y
  · have hqi : (y : Int) - (x : Int) = (q : Int) := by rw [if_pos hxy] at hq; omega
    have hqj : (x : Int) - (y : Int) = -(q : Int) := by omega
    clear hq
    go_enter Try.func16, Try.ntmps16
    go_wp2_with fail
    refine (tableValid_any _ zs0 _ _ _ HV.out).mono ?_; rintro e w1 ⟨rfl, hb⟩
    rw [HT.out]
    have HB := hidH hb
    clear hb
    go_wp2_with fail
    refine (H1.out _).mono ?_; rintro e w_ ⟨rfl, rfl⟩
    go_wp2_with fail
    refine (H2.out _).mono ?_; rintro e w_ ⟨rfl, rfl⟩
    have hca : w1.cell? ⟨b0, off0 + p, none⟩ = some (.int .i64 a) := by rw [HB.out.cell (p := ⟨b0, off0 + p, none⟩) hbw]; exact HCA.out
    have hcb : w1.cell? ⟨b0, off0 + q, none⟩ = some (.int .i64 b) := by rw [HB.out.cell (p := ⟨b0, off0 + q, none⟩) hbw]; exact HCB.out
    have hmx : max (-(q : Int)) (q : Int) = (q : Int) := by omega
    go_wp2_with fail
    go_big_region
    all_goals skip
    go_wp2_with fail
    go_ret2
    exact ⟨rfl, HB.out.drew⟩
  · have hqi : (x : Int) - (y : Int) = (q : Int) := by rw [if_neg hxy] at hq; omega
    have hqj : (y : Int) - (x : Int) = -(q : Int) := by omega
    clear hq
    go_enter Try.func16, Try.ntmps16
    go_wp2_with fail
    refine (tableValid_any _ zs0 _ _ _ HV.out).mono ?_; rintro e w1 ⟨rfl, hb⟩
    rw [HT.out]
    have HB := hidH hb
    clear hb
    go_wp2_with fail
    refine (H1.out _).mono ?_; rintro e w_ ⟨rfl, rfl⟩
    go_wp2_with fail
    refine (H2.out _).mono ?_; rintro e w_ ⟨rfl, rfl⟩
    have hca : w1.cell? ⟨b0, off0 + p, none⟩ = some (.int .i64 a) := by rw [HB.out.cell (p := ⟨b0, off0 + p, none⟩) hbw]; exact HCA.out
    have hcb : w1.cell? ⟨b0, off0 + q, none⟩ = some (.int .i64 b) := by rw [HB.out.cell (p := ⟨b0, off0 + q, none⟩) hbw]; exact HCB.out
    have hmx : max (q : Int) (-(q : Int)) = (q : Int) := by omega
    go_wp2_with fail
    go_big_region
    all_goals skip
    go_wp2_with fail
    go_ret2
    exact ⟨rfl, HB.out.drew⟩
theorem prod_any (v0 : Value) (zs0 : List Int) (n1 n2 : Int) (w : World) (lo0 hi0 : Nat) (hv0 : Lies w lo0 hi0 v0 zs0) : Calls Try.prog 16 #[v0, .int .i64 n1, .int .i64 n2] w (Gives (.tuple #[.int .i64 (prodA zs0 n1 n2), .bool (prodOk zs0 n1 n2)]) w) := by
  unfold prodA
  cases h : prodOk zs0 n1 n2
  · exact prod_no v0 zs0 n1 n2 w lo0 hi0 hv0 h
  · have h' := h
    simp only [prodOk, Bool.and_eq_true] at h'
    obtain ⟨h0, h1, h2, h3⟩ := h'
    exact prod_yes v0 zs0 n1 n2 w lo0 hi0 hv0 h0 h1 h2 h3
end Go.Proofs.Ythinpmhoklehaaa
