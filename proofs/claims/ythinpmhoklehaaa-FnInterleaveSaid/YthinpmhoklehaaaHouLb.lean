/-
  The draw and the walk of the law of Interleave. No conditions but that slices fit in memory.
-/
import Derived.Test.YthinpmhoklehaaaHouLa
import Derived.Test.YthinpmhoklehaaaRkG
import Derived.Test.YthinpmhoklehaaaSlc
namespace Go.Proofs.Ythinpmhoklehaaa
set_option maxRecDepth 4000
open Go.RowKit
/-- Two drawn slices of at most 20 numbers. -/
def DrawII (w : World) (e : Ending) (w' : World) : Prop := ∃ (v : Value) (zs : List Int) (u : Value) (ys : List Int), e = .returned (.tuple #[v, u]) ∧ Lies w' 0 w'.heap.size v zs ∧ Lies w' 0 w'.heap.size u ys ∧ zs.length ≤ 20 ∧ ys.length ≤ 20 ∧ Below w.heap.size w w'
set_option maxHeartbeats 1600000 in
theorem drawInterleave (a : Option Addr) (len cap : Nat) (w : World) (hc : Came w a len cap) (hl : len ≤ 1048576) : Calls Try.prog 8 #[.slice a len cap] w (DrawII w) := by
  have HO := hidH (opened_any a len cap w hc hl)
  clear hc
  go_enter Try.func8, Try.ntmps8
  go_wp2_with fail
  refine HO.out.mono ?_
  rintro e w1 ⟨rfl, hR, hB⟩
  have R1 := hidH hR
  have B1 := hidH hB
  have s1 := hB.size
  have hr1 := hR.lt
  have O1 := hidH (Onto.refl w.heap.size w1)
  clear hR hB HO
  have z1 := O1.out.size
  go_wp2_with fail
  refine (entries6_any w.heap.size 0 w1 R1.out (by omega)).mono ?_
  rintro e w2 ⟨va, zs, rfl, hown, zs1, zs20, hR, hO⟩
  have R2 := hidH hR
  have O2 := hidH (O1.out.trans hO)
  clear hR hO
  have hbE := O1.out.size
  have E_2 := hidH (row_of_owns hown).1
  clear hown
  have hrE_lt : w.heap.size < w1.heap.size := by omega
  go_wp2_with fail
  refine (entries6_any w.heap.size _ w2 R2.out (by omega)).mono ?_
  rintro e w3 ⟨vb, ys, rfl, hown, ys1, ys20, hR, hO⟩
  have R3 := hidH hR
  have O3 := hidH (O2.out.trans hO)
  have E_3 := hidH (row_onto E_2.out hO (by first | omega | exact hrE_lt))
  clear hR hO
  have hbF := O2.out.size
  have F_3 := hidH (row_of_owns hown).1
  clear hown
  have hrF_lt : w.heap.size < w2.heap.size := by omega
  obtain ⟨b0, off0, cap0, rfl, hl0, hm0, _, _, _, _⟩ := E_3.out.lies.addr (by omega)
  obtain ⟨b1, off1, cap1, rfl, hl1, hm1, _, _, _, _⟩ := F_3.out.lies.addr (by omega)
  unfold maxLen at hm0 hm1
  by_cases hcm : zs.length ≤ ys.length
  · have hcn : (zs.length : Int) ≤ (ys.length : Int) := by omega
    go_wp2_with fail
    refine (pick_any 6 w.heap.size _ w3 R3.out (by omega)).mono ?_
    rintro e w4 ⟨x, rfl, x0, x1, hR, hO⟩
    have R4 := hidH hR
    have O4 := hidH (O3.out.trans hO)
    have E_4 := hidH (row_onto E_3.out hO (by first | omega | exact hrE_lt))
    have F_4 := hidH (row_onto F_3.out hO (by first | omega | exact hrF_lt))
    clear hR hO
    have BL := hidH (B1.out.trans (O4.out.below (Nat.le_refl _) s1))
    by_cases hx : 0 < x
    · skip
      go_wp2_with fail
      refine (pick_any 2 w.heap.size _ w4 R4.out (by omega)).mono ?_
      rintro e w5 ⟨y, rfl, y0, y1, hR, hO⟩
      have R5 := hidH hR
      have O5 := hidH (O4.out.trans hO)
      have E_5 := hidH (row_onto E_4.out hO (by first | omega | exact hrE_lt))
      have F_5 := hidH (row_onto F_4.out hO (by first | omega | exact hrF_lt))
      clear hR hO
      have y2 := y1 (by omega)
      have BL2 := hidH (B1.out.trans (O5.out.below (Nat.le_refl _) s1))
      rcases (show y = 0 ∨ y = 1 by omega) with hy | hy
      · obtain rfl : y = 0 := by omega
        go_wp2_with fail
        go_ret2
        exact ⟨_, _, _, _, rfl, (Lies.front E_5.out.lies _ (by omega)).top, (Lies.front F_5.out.lies _ (by omega)).top, by rw [List.length_take]; omega, by rw [List.length_take]; omega, BL2.out⟩
      · obtain rfl : y = 1 := by omega
        go_wp2_with fail
        go_ret2
        exact ⟨_, _, _, _, rfl, (Lies.front E_5.out.lies _ (by omega)).top, (Lies.front F_5.out.lies _ (by omega)).top, by rw [List.length_take]; omega, by rw [List.length_take]; omega, BL2.out⟩
    · obtain rfl : x = 0 := by omega
      go_wp2_with fail
      go_ret2
      exact ⟨_, _, _, _, rfl, E_4.out.lies.top, F_4.out.lies.top, by omega, by omega, BL.out⟩
  · have hcn : (ys.length : Int) < (zs.length : Int) := by omega
    go_wp2_with fail
    refine (pick_any 6 w.heap.size _ w3 R3.out (by omega)).mono ?_
    rintro e w4 ⟨x, rfl, x0, x1, hR, hO⟩
    have R4 := hidH hR
    have O4 := hidH (O3.out.trans hO)
    have E_4 := hidH (row_onto E_3.out hO (by first | omega | exact hrE_lt))
    have F_4 := hidH (row_onto F_3.out hO (by first | omega | exact hrF_lt))
    clear hR hO
    have BL := hidH (B1.out.trans (O4.out.below (Nat.le_refl _) s1))
    by_cases hx : 0 < x
    · skip
      go_wp2_with fail
      refine (pick_any 2 w.heap.size _ w4 R4.out (by omega)).mono ?_
      rintro e w5 ⟨y, rfl, y0, y1, hR, hO⟩
      have R5 := hidH hR
      have O5 := hidH (O4.out.trans hO)
      have E_5 := hidH (row_onto E_4.out hO (by first | omega | exact hrE_lt))
      have F_5 := hidH (row_onto F_4.out hO (by first | omega | exact hrF_lt))
      clear hR hO
      have y2 := y1 (by omega)
      have BL2 := hidH (B1.out.trans (O5.out.below (Nat.le_refl _) s1))
      rcases (show y = 0 ∨ y = 1 by omega) with hy | hy
      · obtain rfl : y = 0 := by omega
        go_wp2_with fail
        go_ret2
        exact ⟨_, _, _, _, rfl, (Lies.front E_5.out.lies _ (by omega)).top, (Lies.front F_5.out.lies _ (by omega)).top, by rw [List.length_take]; omega, by rw [List.length_take]; omega, BL2.out⟩
      · obtain rfl : y = 1 := by omega
        by_cases hq : zs.length = ys.length + 1
        · go_wp2_with fail
          go_ret2
          exact ⟨_, _, _, _, rfl, (Lies.front E_5.out.lies _ (by omega)).top, (Lies.front F_5.out.lies _ (by omega)).top, by rw [List.length_take]; omega, by rw [List.length_take]; omega, BL2.out⟩
        · go_wp2_with fail
          go_ret2
          exact ⟨_, _, _, _, rfl, (Lies.front E_5.out.lies _ (by omega)).top, (Lies.front F_5.out.lies _ (by omega)).top, by rw [List.length_take]; omega, by rw [List.length_take]; omega, BL2.out⟩
    · obtain rfl : x = 0 := by omega
      go_wp2_with fail
      go_ret2
      exact ⟨_, _, _, _, rfl, E_4.out.lies.top, F_4.out.lies.top, by omega, by omega, BL.out⟩
set_option maxHeartbeats 1600000 in
theorem lawInterleave (a : Option Addr) (len cap : Nat) (w : World) (hc : Came w a len cap) : Calls Try.prog 3 #[.slice a len cap] w (Gives (.bool true) w) := by
  have HC := hidH hc
  have hc1 := hc.lenLe
  have hc2 := hc.capLe
  unfold maxLen at hc2
  by_cases hbig : 1048576 < len
  · go_enter Try.func3, Try.ntmps3
    go_wp2
    go_ret
    exact ⟨rfl, Below.refl _ _⟩
  have hsm : len ≤ 1048576 := by omega
  clear hbig hc
  go_enter Try.func3, Try.ntmps3
  have B0 := hidH (Below.refl w.heap.size w)
  go_wp2_with fail
  refine (drawInterleave a len cap _ HC.out hsm).mono ?_; rintro e w1 ⟨v, zs, u, ys, rfl, hz, hy, z20, y20, hb⟩
  have B1 := hidH (bThen B0.out hb)
  have s1 := hb.size
  have LZ_1 := hidH (hz.mono (Nat.le_refl _) (Nat.le_refl _))
  have LY_1 := hidH hy
  clear hb B0  hy
  clear hz
  obtain ⟨za, zcap, rfl, zc1, zc2, _⟩ := LZ_1.out
  unfold maxLen at zc2
  obtain ⟨ya, ycap, rfl, yc1, yc2, _⟩ := LY_1.out
  unfold maxLen at yc2
  have HIL := hidH (ilA_len zs ys)
  have HIF := hidH (fun h : ilOk zs ys = true => ev_len2 zs ys h)
  have HIG := hidH (fun h : ilOk zs ys = true => (show ilA zs ys = ilL zs ys from if_pos h))
  have HIN := hidH (ilL_length zs ys)
  have HI60 := hidH (fun h : ilOk zs ys = true => (of_decide_eq_true h).2)
  go_wp2_with fail
  refine (ilv_any _ zs _ ys _ _ _ _ _ LZ_1.out LY_1.out (by omega) (by omega)).mono ?_; rintro e w2 ⟨g, rfl, hr, hb⟩
  have B2 := hidH (bThen B1.out hb)
  have s2 := hb.size
  have LZ_2 := hidH (LZ_1.out.below hb)
  have LY_2 := hidH (LY_1.out.below hb)
  have G_2 := hidH hr
  clear hb B1 LZ_1 LY_1 hr
  go_wp2_with fail
  refine (sIlv_any _ zs _ ys _ _ _ _ _ LZ_2.out LY_2.out (by omega) (by omega)).mono ?_; rintro e w3 ⟨g2, rfl, hr, hb⟩
  have B3 := hidH (bThen B2.out hb)
  have s3 := hb.size
  have LZ_3 := hidH (LZ_2.out.below hb)
  have LY_3 := hidH (LY_2.out.below hb)
  have G_3 := hidH (G_2.out.below hb)
  have U_3 := hidH hr
  clear hb B2 LZ_2 LY_2 G_2 hr
  obtain ⟨ga, gcap, rfl, gc1, gc2, _⟩ := G_3.out.lies
  unfold maxLen at gc2
  generalize hrb : ilOk zs ys = rb at *
  have HRB := hidH hrb
  clear hrb
  go_wp2_with fail
  refine (deInts_yes _ _ _ _ _ _ _ _ G_3.out.lies U_3.out.lies).mono ?_; rintro e w4 ⟨rfl, hb⟩
  have B4 := hidH (bThen B3.out hb)
  have s4 := hb.size
  have LZ_4 := hidH (LZ_3.out.below hb)
  have LY_4 := hidH (LY_3.out.below hb)
  have G_4 := hidH (G_3.out.below hb)
  have U_4 := hidH (U_3.out.below hb)
  clear hb B3 LZ_3 LY_3 G_3 U_3
  cases rb
  · skip
    go_wp2_with fail
    refine (deInts_yes _ _ _ _ _ _ _ _ G_4.out.lies U_4.out.lies).mono ?_; rintro e w5 ⟨rfl, hb⟩
    have B5 := hidH (bThen B4.out hb)
    have s5 := hb.size
    have LZ_5 := hidH (LZ_4.out.below hb)
    have LY_5 := hidH (LY_4.out.below hb)
    have G_5 := hidH (G_4.out.below hb)
    have U_5 := hidH (U_4.out.below hb)
    clear hb B4 LZ_4 LY_4 G_4 U_4
    go_wp2_with fail
    go_ret
    exact ⟨rfl, B5.out⟩
  · have HI1 := HIF.out rfl
    have HGG := hidH (HIG.out rfl)
    have h60 := HI60.out rfl
    rw [HGG.out] at G_4
    rw [HGG.out] at gc1 ⊢
    have h61 : (ilL zs ys).length ≤ 60 := by rw [HIN.out]; exact h60
    have HN := hidH (show ((ilL zs ys).length : Int) = (zs.length : Int) + (ys.length : Int) by rw [HIN.out]; omega)
    clear U_4
    go_wp2_with fail
    refine (deal_any _ (ilL zs ys) _ _ _ G_4.out.lies).mono ?_; rintro e w5 ⟨x0, x1, rfl, hrr, hb⟩
    obtain ⟨lx0, hx0, lx1, hx1, hr0, hr1, qx0, qx1, qx2, qx3, qx4⟩ := hrr
    rw [(dl_if _ h61).1, HI1.1] at hr0
    rw [(dl_if _ h61).2, HI1.2] at hr1
    have B5 := hidH (bThen B4.out hb)
    have s5 := hb.size
    have LZ_5 := hidH (LZ_4.out.below hb)
    have LY_5 := hidH (LY_4.out.below hb)
    have G_5 := hidH (G_4.out.below hb)
    have X_5 := hidH hr0
    have Y_5 := hidH hr1
    clear hb B4 LZ_4 LY_4 G_4 hr0 hr1
    go_wp2_with fail
    refine (deInts_yes _ _ _ _ _ _ _ _ X_5.out.lies LZ_5.out).mono ?_; rintro e w6 ⟨rfl, hb⟩
    have B6 := hidH (bThen B5.out hb)
    have s6 := hb.size
    have LZ_6 := hidH (LZ_5.out.below hb)
    have LY_6 := hidH (LY_5.out.below hb)
    have G_6 := hidH (G_5.out.below hb)
    have X_6 := hidH (X_5.out.below hb)
    have Y_6 := hidH (Y_5.out.below hb)
    clear hb B5 LZ_5 LY_5 G_5 X_5 Y_5
    go_wp2_with fail
    refine (deInts_yes _ _ _ _ _ _ _ _ Y_6.out.lies LY_6.out).mono ?_; rintro e w7 ⟨rfl, hb⟩
    have B7 := hidH (bThen B6.out hb)
    have s7 := hb.size
    have LZ_7 := hidH (LZ_6.out.below hb)
    have LY_7 := hidH (LY_6.out.below hb)
    have G_7 := hidH (G_6.out.below hb)
    have X_7 := hidH (X_6.out.below hb)
    have Y_7 := hidH (Y_6.out.below hb)
    clear hb B6 LZ_6 LY_6 G_6 X_6 Y_6
    have hn := HN.out
    clear HIF HIG HIN HI60 HI1 HGG HIL HN
    generalize (ilL zs ys).length = m at *
    have hbe : ((m : Int) == (zs.length : Int) + (ys.length : Int)) = true := beq_iff_eq.2 hn
    clear hn
    go_wp2_with fail
    go_ret
    exact ⟨rfl, B7.out⟩
end Go.Proofs.Ythinpmhoklehaaa
