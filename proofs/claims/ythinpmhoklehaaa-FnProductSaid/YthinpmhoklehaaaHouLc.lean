/-
  The draw and the walk of the law of ProductOf. No conditions but that slices fit in memory.
-/
import Derived.Test.YthinpmhoklehaaaHouLb
import Derived.Test.YthinpmhoklehaaaHouH
import Derived.OwnWalk
namespace Go.Proofs.Ythinpmhoklehaaa
set_option maxRecDepth 4000
open Go.RowKit
/-- A drawn table of at most 60 numbers and two numbers. -/
def DrawPO (w : World) (e : Ending) (w' : World) : Prop := ∃ (v : Value) (zs : List Int) (x y : Int), e = .returned (.tuple #[v, .int .i64 x, .int .i64 y]) ∧ Lies w' 0 w'.heap.size v zs ∧ zs.length ≤ 60 ∧ Below w.heap.size w w'
def poNums : List Int := [-1, 59, 60, 9223372036854775807]
theorem prod_turn (T : List Int) (x y : Int) : prodOk T y x = prodOk T x y ∧ prodV T y x = prodV T x y := by
  constructor
  · unfold prodOk
    rw [Int.add_comm y x]
    cases qrtOk x <;> cases qrtOk y <;> rfl
  · unfold prodV
    rw [Int.add_comm y x]
    by_cases h : x < y
    · rw [if_pos h, if_neg (by omega)]
    · rw [if_neg h]
      by_cases h2 : y < x
      · rw [if_pos h2]
      · have e : x = y := by omega
        subst e
        rw [if_neg h]
theorem qs_diff (p q : Int) (k : Int) (h : p * p = q * q + k * 4) : qsD (p * p) - qsD (q * q) = k := by
  unfold qsD
  rw [h, Int.add_mul_ediv_right _ _ (by decide)]
  omega
theorem quarter_prod (m : Nat) (x y : Int) (h1 : 1 ≤ m) (h60 : m ≤ 60) (hx : qrtOk x = true) (hy : qrtOk y = true) (hs : x + y < (m : Int)) : prodOk (qtL m) x y = true ∧ prodV (qtL m) x y = x * y := by
  have hl := qtL_length m
  have hq (k : Nat) (hk : k < m) : qsA (k : Int) = qsD ((k : Int) * k) := by rw [qsA, show qrtOk (k : Int) = true from decide_eq_true (by omega)]; rfl
  constructor
  · have ht : tableOk (qtL m) = true := (listOk_iff _ _ _).2 ⟨by omega, by omega, fun z hz => by
      obtain ⟨j, hj⟩ := List.getElem?_of_mem hz
      have hjm : j < m := by have := (List.getElem?_eq_some_iff.1 hj).1; omega
      rw [qtL_get m j hjm] at hj
      injection hj with hj
      rw [hq j hjm] at hj
      have := qs_sq (j : Int) (decide_eq_true (by omega))
      have h4 : qsD ((j : Int) * j) ≤ (j : Int) * j := Int.ediv_le_self _ this.1
      omega⟩
    unfold prodOk
    rw [ht, hx, hy, hl, decide_eq_true hs]; rfl
  · obtain ⟨a, rfl, ha⟩ := qrt_nat hx
    obtain ⟨b, rfl, hb⟩ := qrt_nat hy
    have hk : (if a < b then b - a else a - b) < m := by split <;> omega
    rw [prodV_nat (qtL m) a b (a + b) (if a < b then b - a else a - b) _ _ rfl rfl (qtL_get m _ (by omega)) (qtL_get m _ hk), hq _ (by omega), hq _ hk]
    refine qs_diff _ _ _ ?_
    have e : ((if a < b then b - a else a - b : Nat) : Int) = (a : Int) - b ∨ ((if a < b then b - a else a - b : Nat) : Int) = -((a : Int) - b) := by split <;> omega
    have e2 : ((if a < b then b - a else a - b : Nat) : Int) * ((if a < b then b - a else a - b : Nat) : Int) = ((a : Int) - b) * ((a : Int) - b) := by
      rcases e with e | e
      · rw [e]
      · rw [e, Int.neg_mul_neg]
    rw [e2, Int.natCast_add, Int.add_mul, Int.mul_add, Int.mul_add, Int.sub_mul, Int.mul_sub, Int.mul_sub, Int.mul_comm (b : Int) (a : Int)]
    omega
set_option maxHeartbeats 1600000 in
theorem drawProductOf (a : Option Addr) (len cap : Nat) (w : World) (hc : Came w a len cap) (hl : len ≤ 1048576) : Calls Try.prog 15 #[.slice a len cap] w (DrawPO w) := by
  have HO := hidH (opened_any a len cap w hc hl)
  clear hc
  go_enter Try.func15, Try.ntmps15
  go_wp2_with fail
  refine HO.out.mono ?_
  rintro e w1 ⟨rfl, hR, hB⟩
  have R1 := hidH hR
  have B1 := hidH hB
  have s1 := hB.size
  have hr1 := hR.lt
  have O1 := hidH (Onto.refl w.heap.size w1)
  clear hR hB HO
  go_wp2_with fail
  refine (pick_any 30 w.heap.size _ w1 R1.out (by omega)).mono ?_
  rintro e w2 ⟨x, rfl, x0, x1, hR, hO⟩
  have R2 := hidH hR
  have O2 := hidH (O1.out.trans hO)
  clear x0 x1 hR hO
  go_wp2_with fail
  refine (pick_any 30 w.heap.size _ w2 R2.out (by omega)).mono ?_
  rintro e w3 ⟨y, rfl, y0, y1, hR, hO⟩
  have R3 := hidH hR
  have O3 := hidH (O2.out.trans hO)
  clear y0 y1 hR hO
  have HQL := hidH (show (qtA 60).length ≤ 60 ∧ 60 ≤ (qtA 60).length by rw [show qtA 60 = qtL 60 from rfl, qtL_length]; omega)
  have HQC := hidH (fun W => sQtab_any 60 W)
  generalize qtA 60 = qs at *
  obtain ⟨hq1, hq2⟩ := HQL.out
  go_wp2_with fail
  refine (HQC.out _).mono ?_; rintro e w4 ⟨v, rfl, hr, hb⟩
  have R4 := hidH (R3.out.onto hb)
  have O4 := hidH (O3.out.trans (Onto.of_below hb))
  have T_4 := hidH hr
  have hrT_lt : w.heap.size < w3.heap.size := by have := O3.out.size; omega
  clear hr hb HQL HQC
  obtain ⟨b0, off0, cap0, rfl, hl0, hm0, _, _, _, _⟩ := T_4.out.lies.addr (by omega)
  unfold maxLen at hm0
  go_wp2_with fail
  refine (pick_any 12 w.heap.size _ w4 R4.out (by omega)).mono ?_
  rintro e w5 ⟨t, rfl, t0, t1, hR, hO⟩
  have R5 := hidH hR
  have O5 := hidH (O4.out.trans hO)
  have T_5 := hidH (row_onto T_4.out hO (by first | omega | exact hrT_lt))
  clear t0 t1 hR hO
  by_cases e1 : t = 0
  · have b1 : (t == 0) = true := beq_iff_eq.2 e1
    clear e1
    go_wp2_with fail
    have hN := num_any w5.heap.size 0 poNums w.heap.size _ (w5.alloc (.cells (intC poNums) 3)) (R5.out.onto ((Below.refl _ _).alloc (Nat.le_refl _) _)) (by omega) (by decide) (by decide) (ints_new _ _ _ _ R5.out.lt)
    refine hN.mono ?_
    rintro e w6 ⟨xx, hz, rfl, hR, hO⟩
    have R6 := hidH hR
    have O6 := hidH (O5.out.trans (((Onto.refl _ _).alloc (.cells (intC poNums) 3)).trans hO))
    have T_6 := hidH (row_onto T_5.out (((Onto.refl _ _).alloc (.cells (intC poNums) 3)).trans hO) (by first | omega | exact hrT_lt))
    clear hN hz hR hO
    go_wp2_with fail
    go_ret3
    exact ⟨_, _, _, _, rfl, T_6.out.lies.top, by omega, B1.out.trans (O6.out.below (Nat.le_refl _) s1)⟩
  · have b1 : (t == 0) = false := beq_eq_false_iff_ne.2 e1
    clear e1
    by_cases e2 : t = 1
    · have b2 : (t == 1) = true := beq_iff_eq.2 e2
      clear e2
      go_wp2_with fail
      refine (entries6_any w.heap.size _ w5 R5.out (by omega)).mono ?_
      rintro e w6 ⟨va, zs, rfl, hown, zs1, zs20, hR, hO⟩
      have R6 := hidH hR
      have O6 := hidH (O5.out.trans hO)
      have T_6 := hidH (row_onto T_5.out hO (by first | omega | exact hrT_lt))
      clear hR hO
      have E_6 := hidH (row_of_owns hown).1
      clear hown
      go_wp2_with fail
      go_ret3
      exact ⟨_, _, _, _, rfl, E_6.out.lies.top, by omega, B1.out.trans (O6.out.below (Nat.le_refl _) s1)⟩
    · have b2 : (t == 1) = false := beq_eq_false_iff_ne.2 e2
      clear e2
      by_cases e3 : t = 2
      · have b3 : (t == 2) = true := beq_iff_eq.2 e3
        clear e3
        go_wp2_with fail
        refine (pick_any 60 w.heap.size _ w5 R5.out (by omega)).mono ?_
        rintro e w6 ⟨p, rfl, p0, p1, hR, hO⟩
        have R6 := hidH hR
        have O6 := hidH (O5.out.trans hO)
        have T_6 := hidH (row_onto T_5.out hO (by first | omega | exact hrT_lt))
        clear hR hO
        have p2 := p1 (by omega)
        obtain ⟨p, rfl⟩ := Int.eq_ofNat_of_zero_le p0
        go_wp2_with fail
        go_ret3
        exact ⟨_, _, _, _, rfl, (Lies.front T_6.out.lies _ (by omega)).top, by rw [List.length_take]; omega, B1.out.trans (O6.out.below (Nat.le_refl _) s1)⟩
      · have b3 : (t == 2) = false := beq_eq_false_iff_ne.2 e3
        clear e3
        go_wp2_with fail
        go_ret3
        exact ⟨_, _, _, _, rfl, T_5.out.lies.top, by omega, B1.out.trans (O5.out.below (Nat.le_refl _) s1)⟩
set_option maxHeartbeats 1600000 in
theorem lawProduct (a : Option Addr) (len cap : Nat) (w : World) (hc : Came w a len cap) : Calls Try.prog 5 #[.slice a len cap] w (Gives (.bool true) w) := by
  have HC := hidH hc
  have hc1 := hc.lenLe
  have hc2 := hc.capLe
  unfold maxLen at hc2
  by_cases hbig : 1048576 < len
  · go_enter Try.func5, Try.ntmps5
    go_wp2
    go_ret
    exact ⟨rfl, Below.refl _ _⟩
  have hsm : len ≤ 1048576 := by omega
  clear hbig hc
  go_enter Try.func5, Try.ntmps5
  have B0 := hidH (Below.refl w.heap.size w)
  go_wp2_with fail
  refine (drawProductOf a len cap _ HC.out hsm).mono ?_; rintro e w1 ⟨v, zs, x, y, rfl, hz, z60, hb⟩
  have B1 := hidH (bThen B0.out hb)
  have s1 := hb.size
  have LZ_1 := hidH hz
  clear hb B0  hz
  obtain ⟨za, zcap, rfl, zc1, zc2, _⟩ := LZ_1.out
  unfold maxLen at zc2
  have HPT := hidH (prod_turn zs x y)
  go_wp2_with fail
  refine (prod_any _ zs x y _ _ _ LZ_1.out).mono ?_; rintro e w2 ⟨rfl, hb⟩
  have B2 := hidH (bThen B1.out hb)
  have s2 := hb.size
  have LZ_2 := hidH (LZ_1.out.below hb)
  clear hb B1 LZ_1
  go_wp2_with fail
  refine (sProd_any _ zs x y _ _ _ LZ_2.out).mono ?_; rintro e w3 ⟨rfl, hb⟩
  have B3 := hidH (bThen B2.out hb)
  have s3 := hb.size
  have LZ_3 := hidH (LZ_2.out.below hb)
  clear hb B2 LZ_2
  cases hok : prodOk zs x y
  · generalize prodA zs x y = pr at *
    go_wp2_with fail
    go_ret
    exact ⟨rfl, B3.out⟩
  · have h' := hok
    have ⟨e1, e2⟩ := HPT.out
    have HA1 := hidH (show prodA zs x y = prodV zs x y from if_pos hok)
    have HA2 := hidH (show prodA zs y x = prodV zs x y by rw [prodA, e1, if_pos hok, e2])
    have HOK2 := hidH (e1.trans hok)
    simp only [prodOk, Bool.and_eq_true, decide_eq_true_eq] at h'
    obtain ⟨h0, h1, h2, h3⟩ := h'
    have ⟨t1, t2⟩ := tableOk_len _ h0
    have ⟨q1, q2⟩ := quarter_prod zs.length x y t1 (by omega) h1 h2 h3
    have HQ1 := hidH q1
    have HQ2 := hidH (show prodA (qtL zs.length) x y = x * y by rw [prodA, if_pos q1, q2])
    have HQT := hidH (show qtA (zs.length : Int) = qtL zs.length by rw [qtA, if_pos (show cntOk4 (zs.length : Int) = true from decide_eq_true (by omega))]; rfl)
    clear e1 e2 h0 h1 h2 h3 q1 q2 hok HPT
    rw [HA1.out]
    generalize hpr : prodV zs x y = pr at *
    clear hpr
    go_wp2_with fail
    refine (prod_any _ zs y x _ _ _ LZ_3.out).mono ?_; rintro e w4 ⟨rfl, hb⟩
    rw [HA2.out, HOK2.out]
    have B4 := hidH (bThen B3.out hb)
    have s4 := hb.size
    have LZ_4 := hidH (LZ_3.out.below hb)
    clear hb B3 LZ_3
    go_wp2_with fail
    refine (qtab_any (zs.length : Int) _).mono ?_; rintro e w5 ⟨g, rfl, hr, hb⟩
    rw [HQT.out] at hr
    have B5 := hidH (bThen B4.out hb)
    have s5 := hb.size
    have LZ_5 := hidH (LZ_4.out.below hb)
    have G_5 := hidH hr
    clear hb B4 LZ_4 hr
    go_wp2_with fail
    refine (prod_any _ (qtL zs.length) x y _ _ _ G_5.out.lies).mono ?_; rintro e w6 ⟨rfl, hb⟩
    rw [HQ2.out, HQ1.out]
    have B6 := hidH (bThen B5.out hb)
    have s6 := hb.size
    have LZ_6 := hidH (LZ_5.out.below hb)
    have G_6 := hidH (G_5.out.below hb)
    clear hb B5 LZ_5 G_5
    have hw1 : (wrap64 (x * y) == wrap64 (x * y)) = true := beq_self_eq_true _
    have hxy : wrap64 (x * y) = x * y ∧ IntKind.i64.wrap (x * y) = x * y := by
      have h := HQ1.out
      simp only [prodOk, Bool.and_eq_true, decide_eq_true_eq] at h
      have ⟨a1, a2⟩ := of_decide_eq_true h.2.1
      have ⟨b1, b2⟩ := of_decide_eq_true h.2.2.1
      have c1 : 0 ≤ x * y := Int.mul_nonneg a1 b1
      have c2 : x * y ≤ 59 * 59 := Int.mul_le_mul a2 b2 b1 (by omega)
      exact ⟨IntWalk.wrap64_in _ (by omega), IntWalk.i64_in _ (by omega)⟩
    obtain ⟨hx1, hx2⟩ := hxy
    have hb1 : (x * y == x * y) = true := beq_self_eq_true _
    have hb2 : (x * y == wrap64 (x * y)) = true := by rw [hx1]; exact beq_self_eq_true _
    have hb3 : (x * y == IntKind.i64.wrap (x * y)) = true := by rw [hx2]; exact beq_self_eq_true _
    go_wp2_with fail
    go_ret
    exact ⟨rfl, B6.out⟩
end Go.Proofs.Ythinpmhoklehaaa
