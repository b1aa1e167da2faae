/-
  The walk of the exact law of PageSums. No conditions but that slices fit in memory.
-/
import Derived.Test.YtlhinfjgabacnaaPsmC
import Derived.Test.YtlhinfjgabacnaaPlcD
import Derived.Test.YtlhinfjgabacnaaSl
namespace Go.Proofs.Ytlhinfjgabacnaa
set_option maxRecDepth 4000
open Go.RowKit
theorem sPageSums_any (R A W : Int) (v : Value) (vs : List Int) (page : Int) (w : World) (lo hi : Nat) (hv : Lies w lo hi v vs) : Calls Try.prog 30 #[layV R A W, v, .int .i64 page] w (NewRow (psA R A W vs page) w) := by
  unfold psA
  cases h : pgOk R A W vs page
  · exact sPageSums_no R A W v vs page w lo hi hv h
  · rw [if_pos rfl]
    obtain ⟨_, _, rn, an, pn, rfl, rfl, rfl, _⟩ := pgOk_parts R A W vs page h
    rw [Int.toNat_natCast, Int.toNat_natCast, Int.toNat_natCast]
    exact sPageSums_yes rn an pn W v vs w lo hi hv h
/-- Block b holds a law's layout. -/
def BoxL (w : World) (b : Nat) (R A W : Int) : Prop := w.heap[b]? = some (.cells #[.int .i64 R, .int .i64 A, .int .i64 W] 34)
theorem BoxL.cell0 {w : World} {b : Nat} {R A W : Int} (h : BoxL w b R A W) : w.cell? ⟨b, 0, none⟩ = some (.int .i64 R) := by
  unfold BoxL at h
  simp [World.cell?, h]
theorem BoxL.cell1 {w : World} {b : Nat} {R A W : Int} (h : BoxL w b R A W) : w.cell? ⟨b, 1, none⟩ = some (.int .i64 A) := by
  unfold BoxL at h
  simp [World.cell?, h]
theorem BoxL.cell2 {w : World} {b : Nat} {R A W : Int} (h : BoxL w b R A W) : w.cell? ⟨b, 2, none⟩ = some (.int .i64 W) := by
  unfold BoxL at h
  simp [World.cell?, h]
theorem BoxL.lt {w : World} {b : Nat} {R A W : Int} (h : BoxL w b R A W) : b < w.heap.size := (Array.getElem?_eq_some_iff.1 h).1
theorem BoxL.fresh (w : World) (R A W : Int) : BoxL (w.alloc (.cells #[.int .i64 R, .int .i64 A, .int .i64 W] 34)) w.heap.size R A W := heap_alloc_new w _
theorem BoxL.below {w w' : World} {b : Nat} {R A W : Int} (h : BoxL w b R A W) (hb : Below w.heap.size w w') : BoxL w' b R A W := by
  have hl := h.lt
  unfold BoxL at *
  rw [hb.block b hl]; exact h
theorem BoxL.apart {w w' : World} {b lo hi : Nat} {R A W : Int} (h : BoxL w b R A W) (hb : Apart lo hi w w') (hc : b < lo ∨ hi ≤ b) : BoxL w' b R A W := by
  have hl := h.lt
  unfold BoxL at *
  rw [hb.block b hl hc]; exact h
set_option maxHeartbeats 1000000 in
theorem exPageSums (l0 l1 l2 : Int) (v1 : Value) (zs1 : List Int) (n2 : Int) (w : World) (hv1 : Lies w 0 w.heap.size v1 zs1) : Calls Try.prog 10 #[layV l0 l1 l2, v1, .int .i64 n2] w (Gives (.bool true) w) := by
  have HV1 := hidH hv1
  obtain ⟨a1, cap1, rfl, hlc1, hcm1, hnil1, hcell1⟩ := hv1
  clear hnil1 hcell1
  unfold maxLen at hcm1
  have HLY := hidH (fun W' => toLay_any l0 l1 l2 W')
  have BXL := hidH (bMore (Below.refl w.heap.size w) (.cells #[.int .i64 l0, .int .i64 l1, .int .i64 l2] 34))
  have LXL := hidH (BoxL.fresh w l0 l1 l2)
  unfold layV at *
  by_cases hbig1 : 1048576 < zs1.length
  · go_enter Try.func10, Try.ntmps10
    go_wp2
    go_ret
    exact ⟨rfl, BXL.out⟩
  · have hsm1 : zs1.length ≤ 1048576 := by omega
    clear hbig1
    go_enter Try.func10, Try.ntmps10
    have B0 := BXL
    have L_0 := LXL
    have s0 : w.heap.size + 1 = (w.alloc (.cells #[.int .i64 l0, .int .i64 l1, .int .i64 l2] 34)).heap.size := by simp
    have c0 := L_0.out.cell0
    have c1 := L_0.out.cell1
    have c2 := L_0.out.cell2
    go_wp2_with fail
    clear c0 c1 c2
    refine (HLY.out _).mono ?_; rintro e w1 ⟨rfl, hb⟩
    have B1 := hidH (B0.out.trans (hb.mono B0.out.size))
    have s1 := hb.size
    have L_1 := hidH (L_0.out.below hb)
    clear hb
    clear B0 L_0
    go_wp2_with fail
    refine (toInts_any _ zs1 _ ((HV1.out.below B1.out).mono (Nat.le_refl _) B1.out.size) hsm1).mono ?_; rintro e w2 ⟨t1, rfl, hr, hb⟩
    have B2 := hidH (B1.out.trans (hb.mono B1.out.size))
    have s2 := hb.size
    have L_2 := hidH (L_1.out.below hb)
    have T1_2 := hidH hr
    clear hb hr
    clear B1 L_1
    go_wp2_with fail
    refine (sPageSums_any l0 l1 l2 t1 zs1 n2 _ _ _ T1_2.out.lies).mono ?_; rintro e w3 ⟨u, rfl, hr, hb⟩
    have B3 := hidH (B2.out.trans (hb.mono B2.out.size))
    have s3 := hb.size
    have L_3 := hidH (L_2.out.below hb)
    have T1_3 := hidH (T1_2.out.below hb)
    have W_3 := hidH hr
    clear hb hr
    clear B2 L_2 T1_2
    clear T1_3
    go_wp2_with fail
    refine (toInts_any _ zs1 _ ((HV1.out.below B3.out).mono (Nat.le_refl _) B3.out.size) hsm1).mono ?_; rintro e w4 ⟨x1, rfl, hr, hb⟩
    have B4 := hidH (B3.out.trans (hb.mono B3.out.size))
    have s4 := hb.size
    have L_4 := hidH (L_3.out.below hb)
    have W_4 := hidH (W_3.out.below hb)
    have X1_4 := hidH hr
    clear hb hr
    clear B3 L_3 W_3
    have c0 := L_4.out.cell0
    have c1 := L_4.out.cell1
    have c2 := L_4.out.cell2
    go_wp2_with fail
    clear c0 c1 c2
    refine (HLY.out _).mono ?_; rintro e w5 ⟨rfl, hb⟩
    have B5 := hidH (B4.out.trans (hb.mono B4.out.size))
    have s5 := hb.size
    have L_5 := hidH (L_4.out.below hb)
    have W_5 := hidH (W_4.out.below hb)
    have X1_5 := hidH (X1_4.out.below hb)
    clear hb
    clear B4 L_4 W_4 X1_4
    go_wp2_with fail
    refine (pageSums_any l0 l1 l2 x1 zs1 n2 _ _ _ X1_5.out.lies (by omega)).mono ?_; rintro e w6 ⟨g, rfl, hr, hb⟩
    have B6 := hidH (B5.out.trans (hb.mono B5.out.size))
    have s6 := hb.size
    have L_6 := hidH (L_5.out.below hb)
    have W_6 := hidH (W_5.out.below hb)
    have X1_6 := hidH (X1_5.out.below hb)
    have G_6 := hidH hr
    clear hb hr
    clear B5 L_5 W_5 X1_5
    have hlen := psA_len l0 l1 l2 zs1 n2
    generalize hrs : psA l0 l1 l2 zs1 n2 = rs at *
    have HRS := hidH hrs
    clear hrs
    go_wp2_with fail
    refine (eqInts_yes g u rs _ _ _ _ _ G_6.out.lies W_6.out.lies).mono ?_; rintro e w7 ⟨rfl, hb⟩
    have B7 := hidH (B6.out.trans (hb.mono B6.out.size))
    have s7 := hb.size
    have L_7 := hidH (L_6.out.below hb)
    have W_7 := hidH (W_6.out.below hb)
    have X1_7 := hidH (X1_6.out.below hb)
    have G_7 := hidH (G_6.out.below hb)
    clear hb
    clear B6 L_6 W_6 X1_6 G_6
    go_wp2_with fail
    refine (toInts_any _ zs1 _ ((HV1.out.below B7.out).mono (Nat.le_refl _) B7.out.size) hsm1).mono ?_; rintro e w8 ⟨y1, rfl, hr, hb⟩
    have B8 := hidH (B7.out.trans (hb.mono B7.out.size))
    have s8 := hb.size
    have L_8 := hidH (L_7.out.below hb)
    have W_8 := hidH (W_7.out.below hb)
    have X1_8 := hidH (X1_7.out.below hb)
    have G_8 := hidH (G_7.out.below hb)
    have Y1_8 := hidH hr
    clear hb hr
    clear B7 L_7 W_7 X1_7 G_7
    go_wp2_with fail
    refine (eqInts_yes x1 y1 zs1 _ _ _ _ _ X1_8.out.lies Y1_8.out.lies).mono ?_; rintro e w9 ⟨rfl, hb⟩
    have B9 := hidH (B8.out.trans (hb.mono B8.out.size))
    have s9 := hb.size
    have L_9 := hidH (L_8.out.below hb)
    have W_9 := hidH (W_8.out.below hb)
    have X1_9 := hidH (X1_8.out.below hb)
    have G_9 := hidH (G_8.out.below hb)
    have Y1_9 := hidH (Y1_8.out.below hb)
    clear hb
    clear B8 L_8 W_8 X1_8 G_8 Y1_8
    clear Y1_9
    go_wp2_with fail
    refine (mark_any x1 zs1 (1) _ _ _ X1_9.out (by omega) (by omega) hsm1).mono ?_; rintro e w10 ⟨rfl, hr, ha⟩
    have s10 := ha.size
    have B10 := hidH (B9.out.trans (ha.below (by have := B9.out.size; omega) B9.out.size))
    have L_10 := hidH (L_9.out.apart ha (by omega))
    have W_10 := hidH (W_9.out.apart ha (by omega))
    have G_10 := hidH (G_9.out.apart ha (by omega))
    have X1_10 := hidH hr
    clear ha hr
    clear B9 L_9 W_9 X1_9 G_9
    clear X1_10
    go_wp2_with fail
    refine (eqInts_yes g u rs _ _ _ _ _ G_10.out.lies W_10.out.lies).mono ?_; rintro e w11 ⟨rfl, hb⟩
    have B11 := hidH (B10.out.trans (hb.mono B10.out.size))
    have s11 := hb.size
    have L_11 := hidH (L_10.out.below hb)
    have W_11 := hidH (W_10.out.below hb)
    have G_11 := hidH (G_10.out.below hb)
    clear hb
    clear B10 L_10 W_10 G_10
    go_wp2_with fail
    refine (mark_any g rs 1 _ _ _ G_11.out (by omega) (by omega) hlen).mono ?_; rintro e w12 ⟨rfl, hr, ha⟩
    have s12 := ha.size
    have B12 := hidH (B11.out.trans (ha.below (by have := B11.out.size; omega) B11.out.size))
    have L_12 := hidH (L_11.out.apart ha (by omega))
    have W_12 := hidH (W_11.out.apart ha (by omega))
    have G_12 := hidH hr
    clear ha hr
    clear B11 L_11 W_11 G_11
    go_wp2_with fail
    refine (held_any g 1 rs.length _ _ _ G_12.out.lies (by omega) (by omega) hlen).mono ?_; rintro e w13 ⟨rfl, hb⟩
    have B13 := hidH (B12.out.trans (hb.mono B12.out.size))
    have s13 := hb.size
    have L_13 := hidH (L_12.out.below hb)
    have W_13 := hidH (W_12.out.below hb)
    have G_13 := hidH (G_12.out.below hb)
    clear hb
    clear B12 L_12 W_12 G_12
    have c0 := L_13.out.cell0
    have c1 := L_13.out.cell1
    have c2 := L_13.out.cell2
    go_wp2_with fail
    clear c0 c1 c2
    refine (HLY.out _).mono ?_; rintro e w14 ⟨rfl, hb⟩
    have B14 := hidH (B13.out.trans (hb.mono B13.out.size))
    have s14 := hb.size
    have L_14 := hidH (L_13.out.below hb)
    have W_14 := hidH (W_13.out.below hb)
    have G_14 := hidH (G_13.out.below hb)
    clear hb
    clear B13 L_13 W_13 G_13
    go_wp2_with fail
    refine (toInts_any _ zs1 _ ((HV1.out.below B14.out).mono (Nat.le_refl _) B14.out.size) hsm1).mono ?_; rintro e w15 ⟨t1_, rfl, hr, hb⟩
    have B15 := hidH (B14.out.trans (hb.mono B14.out.size))
    have s15 := hb.size
    have L_15 := hidH (L_14.out.below hb)
    have W_15 := hidH (W_14.out.below hb)
    have G_15 := hidH (G_14.out.below hb)
    have T1_15 := hidH hr
    clear hb hr
    clear B14 L_14 W_14 G_14
    go_wp2_with fail
    refine (pageSums_any l0 l1 l2 t1_ zs1 n2 _ _ _ T1_15.out.lies (by omega)).mono ?_; rintro e w16 ⟨h, rfl, hr, hb⟩
    have B16 := hidH (B15.out.trans (hb.mono B15.out.size))
    have s16 := hb.size
    have L_16 := hidH (L_15.out.below hb)
    have W_16 := hidH (W_15.out.below hb)
    have G_16 := hidH (G_15.out.below hb)
    have T1_16 := hidH (T1_15.out.below hb)
    have H_16 := hidH hr
    clear hb hr
    clear B15 L_15 W_15 G_15 T1_15
    rw [HRS.out] at H_16
    go_wp2_with fail
    refine (eqInts_yes h u rs _ _ _ _ _ H_16.out.lies W_16.out.lies).mono ?_; rintro e w17 ⟨rfl, hb⟩
    have B17 := hidH (B16.out.trans (hb.mono B16.out.size))
    have s17 := hb.size
    have L_17 := hidH (L_16.out.below hb)
    have W_17 := hidH (W_16.out.below hb)
    have G_17 := hidH (G_16.out.below hb)
    have T1_17 := hidH (T1_16.out.below hb)
    have H_17 := hidH (H_16.out.below hb)
    clear hb
    clear B16 L_16 W_16 G_16 T1_16 H_16
    go_wp2_with fail
    refine (held_any g 1 rs.length _ _ _ G_17.out.lies (by omega) (by omega) hlen).mono ?_; rintro e w18 ⟨rfl, hb⟩
    have B18 := hidH (B17.out.trans (hb.mono B17.out.size))
    have s18 := hb.size
    have L_18 := hidH (L_17.out.below hb)
    have W_18 := hidH (W_17.out.below hb)
    have G_18 := hidH (G_17.out.below hb)
    have T1_18 := hidH (T1_17.out.below hb)
    have H_18 := hidH (H_17.out.below hb)
    clear hb
    clear B17 L_17 W_17 G_17 T1_17 H_17
    go_wp2
    go_ret
    exact ⟨rfl, B18.out⟩
end Go.Proofs.Ytlhinfjgabacnaa
