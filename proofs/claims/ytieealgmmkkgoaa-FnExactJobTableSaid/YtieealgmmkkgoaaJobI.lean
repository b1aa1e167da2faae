/-
  The walk of the exact law of JobTable. Condition: at most 1048576 differences.
-/
import Derived.Test.YtieealgmmkkgoaaJobF
import Derived.Test.YtieealgmmkkgoaaJobH
namespace Go.Proofs.Ytieealgmmkkgoaa
set_option maxRecDepth 4000
open Go.RowKit
theorem JobAt.apart {w w' : World} {b t lo hi : Nat} {cs : Array Value} (h : JobAt w b t cs) (ha : Apart lo hi w w') (hd : b < lo ∨ hi ≤ b) : JobAt w' b t cs := by
  unfold JobAt at *
  exact (ha.block b (Array.getElem?_eq_some_iff.1 h).1 hd).trans h
set_option maxHeartbeats 800000 in
theorem markJob_any (v : Value) (zs : List Int) (F C Wd D Wy R A Wi : Int) (k0 : Int) (w : World) (lo hi : Nat) (hv : Row w lo hi v zs) (hk1 : 0 ≤ k0) (hk0 : k0 ≤ 4194304) (hn : zs.length ≤ 1048576) : Calls Try.prog 10 #[jobV v F C Wd D Wy R A Wi, .int .i64 k0] w (Marks v lo hi zs.length k0 w) := by
  have HS := hidH (fun W (h : Row W lo hi v zs) => mark_any v zs k0 W lo hi h hk1 hk0 hn)
  have HL := hidH hv
  obtain ⟨a, cap, rfl⟩ := hv.someJ
  clear hv
  unfold jobV jobC
  have BB := hidH (bMore (Below.refl w.heap.size w) (.cells #[.slice a zs.length cap, .int .i64 F, .int .i64 C, .int .i64 Wd, .int .i64 D, .int .i64 Wy, .int .i64 R, .int .i64 A, .int .i64 Wi] 32))
  go_enter Try.func10, Try.ntmps10
  go_wp2_with fail
  refine (HS.out _ (HL.out.below BB.out)).mono ?_; rintro e w1 ⟨rfl, hr, ha⟩
  have HR := hidH hr
  have HA := hidH ((Apart.of_below (lo := lo) (hi := hi) BB.out).trans ha)
  clear hr ha
  go_wp2_with fail
  go_ret
  exact ⟨rfl, HR.out, HA.out⟩
set_option maxHeartbeats 6400000 in
theorem exJobTable (v : Value) (zs : List Int) (F C Wd D Wy R A Wi : Int) (w : World) (hv : Lies w 0 w.heap.size v zs) : Calls Try.prog 3 #[jobV v F C Wd D Wy R A Wi] w (Gives (.bool true) w) := by
  have HV := hidH hv
  obtain ⟨av, cv, rfl, hlc, hcm, _, _⟩ := hv
  have B0 := hidH (bMore (Below.refl w.heap.size w) (.cells (jobC (.slice av zs.length cv) F C Wd D Wy R A Wi) 26))
  have J0 := hidH (show JobAt (w.alloc (.cells (jobC (.slice av zs.length cv) F C Wd D Wy R A Wi) 26)) w.heap.size 26 (jobC (.slice av zs.length cv) F C Wd D Wy R A Wi) from heap_alloc_new w _)
  have HSZ := hidH (fun W => szJob_any av zs.length cv F C Wd D Wy R A Wi W 1048576 hlc hcm (Nat.le_refl _))
  have HS := hidH (fun u W lo hi (h : Lies W lo hi u zs) => sJobTable_any u zs F C Wd D Wy R A Wi W lo hi h)
  have HI := hidH (fun u W lo hi (h : Lies W lo hi u zs) => jobTable_any u zs F C Wd D Wy R A Wi W lo hi h)
  have HEQ := hidH (fun u x W l1 h1 l2 h2 hu hx => eqJob_yes u x zs F C Wd D Wy R A Wi W l1 h1 l2 h2 hu hx)
  have hlen := tabA_len zs F C Wd D Wy R A Wi
  generalize tabA zs F C Wd D Wy R A Wi = rs at *
  generalize tabB zs F C Wd D Wy R A Wi = rb at *
  have hrb : (rb != rb) = false := bne_self_eq_false rb
  have HTJ0 := hidH (fun W (h : Lies W 0 W.heap.size (.slice av zs.length cv) zs) (hn : zs.length ≤ 1048576) => toJob_any (.slice av zs.length cv) zs F C Wd D Wy R A Wi W h hn)
  have HMK0 := hidH (fun a cap k0 W lo hi (h : Row W lo hi (.slice a zs.length cap) zs) (h1 : (0 : Int) ≤ k0) (h2 : k0 ≤ 4194304) (hn : zs.length ≤ 1048576) => markJob_any (.slice a zs.length cap) zs F C Wd D Wy R A Wi k0 W lo hi h h1 h2 hn)
  have SZv := hidH (job_size (.slice av zs.length cv) F C Wd D Wy R A Wi)
  unfold maxLen at hcm
  unfold jobV at *
  unfold jobC at *
  go_enter Try.func3, Try.ntmps3
  go_wp2_with fail
  refine (HSZ.out _).mono ?_; rintro e w1 ⟨h | h, hb⟩
  rotate_left
  · subst h
    have B1 := hidH (bThen B0.out hb)
    clear hb
    go_wp2_with fail
    go_ret
    exact ⟨rfl, B1.out⟩
  obtain ⟨hn, rfl⟩ := h
  have hn0 : (0 : Int) ≤ ((1048576 - zs.length : Nat) : Int) := by omega
  have hnn : ¬ ((1048576 - zs.length : Nat) : Int) < 0 := by omega
  have B1 := hidH (bThen B0.out hb)
  have J_1 := hidH (J0.out.below hb)
  have s1 := B1.out.size
  have s0 := hb.size
  rw [show (w.alloc (.cells #[.slice av zs.length cv, .int .i64 F, .int .i64 C, .int .i64 Wd, .int .i64 D, .int .i64 Wy, .int .i64 R, .int .i64 A, .int .i64 Wi] 26)).heap.size = w.heap.size + 1 from by simp] at s0
  have HTJ := hidH (fun W h => HTJ0.out W h hn)
  have HMK := hidH (fun a cap k0 W lo hi h h1 h2 => HMK0.out a cap k0 W lo hi h h1 h2 hn)
  clear hb B0 J0 HSZ HTJ0 HMK0
  have p0 := J_1.out.cell 0 _ rfl
  have p1 := J_1.out.cell 1 _ rfl
  have p2 := J_1.out.cell 2 _ rfl
  have p3 := J_1.out.cell 3 _ rfl
  have p4 := J_1.out.cell 4 _ rfl
  have p5 := J_1.out.cell 5 _ rfl
  have p6 := J_1.out.cell 6 _ rfl
  have p7 := J_1.out.cell 7 _ rfl
  have p8 := J_1.out.cell 8 _ rfl
  go_wp2_with fail
  refine (HTJ.out _ ((HV.out.below B1.out).mono (Nat.le_refl _) B1.out.size)).mono ?_; rintro e w2 ⟨ta, tc, rfl, hr, hb⟩
  have B2 := hidH (B1.out.trans (hb.mono B1.out.size))
  have s2 := hb.size
  have J_2 := hidH (J_1.out.below hb)
  have T_2 := hidH hr
  clear hb hr B1 J_1 p0 p1 p2 p3 p4 p5 p6 p7 p8
  go_wp2_with fail
  refine (HS.out _ _ _ _ T_2.out.lies).mono ?_; rintro e w3 ⟨u, rfl, hr, hb⟩
  have B3 := hidH (B2.out.trans (hb.mono B2.out.size))
  have s3 := hb.size
  have J_3 := hidH (J_2.out.below hb)
  have T_3 := hidH (T_2.out.below hb)
  have U_3 := hidH hr
  clear hb hr B2 J_2 T_2 
  clear T_3
  have p0 := J_3.out.cell 0 _ rfl
  have p1 := J_3.out.cell 1 _ rfl
  have p2 := J_3.out.cell 2 _ rfl
  have p3 := J_3.out.cell 3 _ rfl
  have p4 := J_3.out.cell 4 _ rfl
  have p5 := J_3.out.cell 5 _ rfl
  have p6 := J_3.out.cell 6 _ rfl
  have p7 := J_3.out.cell 7 _ rfl
  have p8 := J_3.out.cell 8 _ rfl
  go_wp2_with fail
  refine (HTJ.out _ ((HV.out.below B3.out).mono (Nat.le_refl _) B3.out.size)).mono ?_; rintro e w4 ⟨xa, xc, rfl, hr, hb⟩
  have B4 := hidH (B3.out.trans (hb.mono B3.out.size))
  have s4 := hb.size
  have J_4 := hidH (J_3.out.below hb)
  have U_4 := hidH (U_3.out.below hb)
  have X_4 := hidH hr
  clear hb hr B3 J_3 U_3 p0 p1 p2 p3 p4 p5 p6 p7 p8
  have B5 := hidH (bMore B4.out (.cells #[.slice xa zs.length xc, .int .i64 F, .int .i64 C, .int .i64 Wd, .int .i64 D, .int .i64 Wy, .int .i64 R, .int .i64 A, .int .i64 Wi] 32))
  have s5 : w4.heap.size + 1 = (w4.alloc (.cells #[.slice xa zs.length xc, .int .i64 F, .int .i64 C, .int .i64 Wd, .int .i64 D, .int .i64 Wy, .int .i64 R, .int .i64 A, .int .i64 Wi] 32)).heap.size := by simp
  have J_5 := hidH (J_4.out.below ((Below.refl _ w4).alloc (Nat.le_refl _) (.cells #[.slice xa zs.length xc, .int .i64 F, .int .i64 C, .int .i64 Wd, .int .i64 D, .int .i64 Wy, .int .i64 R, .int .i64 A, .int .i64 Wi] 32)))
  have U_5 := hidH (U_4.out.below ((Below.refl _ w4).alloc (Nat.le_refl _) (.cells #[.slice xa zs.length xc, .int .i64 F, .int .i64 C, .int .i64 Wd, .int .i64 D, .int .i64 Wy, .int .i64 R, .int .i64 A, .int .i64 Wi] 32)))
  have X_5 := hidH (X_4.out.below ((Below.refl _ w4).alloc (Nat.le_refl _) (.cells #[.slice xa zs.length xc, .int .i64 F, .int .i64 C, .int .i64 Wd, .int .i64 D, .int .i64 Wy, .int .i64 R, .int .i64 A, .int .i64 Wi] 32)))
  have K_5 := hidH (show JobAt (w4.alloc (.cells #[.slice xa zs.length xc, .int .i64 F, .int .i64 C, .int .i64 Wd, .int .i64 D, .int .i64 Wy, .int .i64 R, .int .i64 A, .int .i64 Wi] 32)) w4.heap.size 32 #[.slice xa zs.length xc, .int .i64 F, .int .i64 C, .int .i64 Wd, .int .i64 D, .int .i64 Wy, .int .i64 R, .int .i64 A, .int .i64 Wi] from heap_alloc_new w4 _)
  clear B4 J_4 U_4 X_4
  have q0 := K_5.out.cell 0 _ rfl
  have q1 := K_5.out.cell 1 _ rfl
  have q2 := K_5.out.cell 2 _ rfl
  have q3 := K_5.out.cell 3 _ rfl
  have q4 := K_5.out.cell 4 _ rfl
  have q5 := K_5.out.cell 5 _ rfl
  have q6 := K_5.out.cell 6 _ rfl
  have q7 := K_5.out.cell 7 _ rfl
  have q8 := K_5.out.cell 8 _ rfl
  go_wp2_with fail
  refine (HI.out _ _ _ _ X_5.out.lies).mono ?_; rintro e w6 ⟨g, rfl, hr, hb⟩
  have B6 := hidH (B5.out.trans (hb.mono B5.out.size))
  have s6 := hb.size
  have J_6 := hidH (J_5.out.below hb)
  have U_6 := hidH (U_5.out.below hb)
  have X_6 := hidH (X_5.out.below hb)
  have K_6 := hidH (K_5.out.below hb)
  have G_6 := hidH hr
  clear hb hr B5 J_5 U_5 X_5 K_5 q0 q1 q2 q3 q4 q5 q6 q7 q8
  go_wp2_with fail
  refine (eqInts_yes g u rs _ _ _ _ _ G_6.out.lies U_6.out.lies).mono ?_; rintro e w7 ⟨rfl, hb⟩
  have B7 := hidH (B6.out.trans (hb.mono B6.out.size))
  have s7 := hb.size
  have J_7 := hidH (J_6.out.below hb)
  have U_7 := hidH (U_6.out.below hb)
  have X_7 := hidH (X_6.out.below hb)
  have K_7 := hidH (K_6.out.below hb)
  have G_7 := hidH (G_6.out.below hb)
  clear hb B6 J_6 U_6 X_6 K_6 G_6 
  have Bd := hidH (show Below w.heap.size w w7.drew from B7.out.drew)
  have Ld := hidH (show Lies w7.drew 0 w7.drew.heap.size (.slice av zs.length cv) zs from ((HV.out.below Bd.out).mono (Nat.le_refl _) Bd.out.size))
  have Jd := hidH (show JobAt w7.drew w.heap.size 26 _ from J_7.out)
  have Kd := hidH (show JobAt w7.drew w4.heap.size 32 _ from K_7.out)
  have Xd := hidH (show Row w7.drew _ _ _ _ from X_7.out.below (Below.refl _ _).drew)
  have Gd := hidH (show Row w7.drew _ _ _ _ from G_7.out.below (Below.refl _ _).drew)
  have Ud := hidH (show Row w7.drew _ _ _ _ from U_7.out.below (Below.refl _ _).drew)
  have sd : w7.drew.heap.size = w7.heap.size := rfl
  clear B7 J_7 U_7 X_7 K_7 G_7
  have d0 := Kd.out.cell 0 _ rfl
  have e0 := Jd.out.cell 0 _ rfl
  have d1 := Kd.out.cell 1 _ rfl
  have e1 := Jd.out.cell 1 _ rfl
  have d2 := Kd.out.cell 2 _ rfl
  have e2 := Jd.out.cell 2 _ rfl
  have d3 := Kd.out.cell 3 _ rfl
  have e3 := Jd.out.cell 3 _ rfl
  have d4 := Kd.out.cell 4 _ rfl
  have e4 := Jd.out.cell 4 _ rfl
  have d5 := Kd.out.cell 5 _ rfl
  have e5 := Jd.out.cell 5 _ rfl
  have d6 := Kd.out.cell 6 _ rfl
  have e6 := Jd.out.cell 6 _ rfl
  have d7 := Kd.out.cell 7 _ rfl
  have e7 := Jd.out.cell 7 _ rfl
  have d8 := Kd.out.cell 8 _ rfl
  have e8 := Jd.out.cell 8 _ rfl
  go_wp2_with fail
  refine wp_region_held_drew (S := fun w' => w'.cell? ⟨w4.heap.size, 0, none⟩ = some (.slice xa zs.length xc) ∧ w'.cell? ⟨w4.heap.size, 1, none⟩ = some (.int .i64 F) ∧ w'.cell? ⟨w4.heap.size, 2, none⟩ = some (.int .i64 C) ∧ w'.cell? ⟨w4.heap.size, 3, none⟩ = some (.int .i64 Wd) ∧ w'.cell? ⟨w4.heap.size, 4, none⟩ = some (.int .i64 D) ∧ w'.cell? ⟨w4.heap.size, 5, none⟩ = some (.int .i64 Wy) ∧ w'.cell? ⟨w4.heap.size, 6, none⟩ = some (.int .i64 R) ∧ w'.cell? ⟨w4.heap.size, 7, none⟩ = some (.int .i64 A) ∧ w'.cell? ⟨w4.heap.size, 8, none⟩ = some (.int .i64 Wi) ∧ w'.cell? ⟨w.heap.size, 0, none⟩ = some (.slice av zs.length cv) ∧ w'.cell? ⟨w.heap.size, 1, none⟩ = some (.int .i64 F) ∧ w'.cell? ⟨w.heap.size, 2, none⟩ = some (.int .i64 C) ∧ w'.cell? ⟨w.heap.size, 3, none⟩ = some (.int .i64 Wd) ∧ w'.cell? ⟨w.heap.size, 4, none⟩ = some (.int .i64 D) ∧ w'.cell? ⟨w.heap.size, 5, none⟩ = some (.int .i64 Wy) ∧ w'.cell? ⟨w.heap.size, 6, none⟩ = some (.int .i64 R) ∧ w'.cell? ⟨w.heap.size, 7, none⟩ = some (.int .i64 A) ∧ w'.cell? ⟨w.heap.size, 8, none⟩ = some (.int .i64 Wi)) (by kernel_rfl) ⟨d0, d1, d2, d3, d4, d5, d6, d7, d8, e0, e1, e2, e3, e4, e5, e6, e7, e8⟩ (fun hHeld => ?_)
  try dsimp only
  refine onG 0 (some 41) (v := ?v31_) (by kernel_rfl) (by kernel_rfl) (by kernel_rfl) (fun _ _ _ h => h) (by rfl) hHeld ?hy31_ ?rest31_
  case hy31_ =>
    intro o ho; simp only [List.getElem?_toArray, List.getElem?_cons_zero, Option.some.injEq] at ho; subst ho; intro w hSw; (try dsimp only at hSw)
    go_simp
    try with_reducible rfl
  case rest31_ =>
  try simp only [Act.put, List.setIfInBounds_toArray, List.set_cons_zero, List.set_cons_succ]
  refine onG 1 (some 42) (v := ?v32_) (by kernel_rfl) (by kernel_rfl) (by kernel_rfl) (fun _ _ _ h => h) (by rfl) hHeld ?hy32_ ?rest32_
  case hy32_ =>
    intro o ho; simp only [List.getElem?_toArray, List.getElem?_cons_succ, List.getElem?_cons_zero, Option.some.injEq] at ho; subst ho; intro w hSw; (try dsimp only at hSw)
    go_simp
    try with_reducible rfl
  case rest32_ =>
  try simp only [Act.put, List.setIfInBounds_toArray, List.set_cons_zero, List.set_cons_succ]
  refine callG 2 (by kernel_rfl) ?_
  intro o ho; simp only [List.getElem?_toArray, List.getElem?_cons_succ, List.getElem?_cons_zero, Option.some.injEq] at ho; subst ho; intro K hK
  go_simp
  go_at_call 6
  (with_reducible refine (HTJ.out _ (Ld.out)).mono ?_)
  rintro e wA ⟨ya, yc, rfl, hr, hb⟩
  (have BA := hidH (bThen Bd.out hb))
  (have sA := hb.size)
  (have JA := hidH (Jd.out.below hb))
  (have KA := hidH (Kd.out.below hb))
  (have XA := hidH (Xd.out.below hb))
  (have GA := hidH (Gd.out.below hb))
  (have UA := hidH (Ud.out.below hb))
  (have YA := hidH hr)
  (have f0 := KA.out.cell 0 _ rfl)
  (have f1 := KA.out.cell 1 _ rfl)
  (have f2 := KA.out.cell 2 _ rfl)
  (have f3 := KA.out.cell 3 _ rfl)
  (have f4 := KA.out.cell 4 _ rfl)
  (have f5 := KA.out.cell 5 _ rfl)
  (have f6 := KA.out.cell 6 _ rfl)
  (have f7 := KA.out.cell 7 _ rfl)
  (have f8 := KA.out.cell 8 _ rfl)
  (have g0 := JA.out.cell 0 _ rfl)
  (have g1 := JA.out.cell 1 _ rfl)
  (have g2 := JA.out.cell 2 _ rfl)
  (have g3 := JA.out.cell 3 _ rfl)
  (have g4 := JA.out.cell 4 _ rfl)
  (have g5 := JA.out.cell 5 _ rfl)
  (have g6 := JA.out.cell 6 _ rfl)
  (have g7 := JA.out.cell 7 _ rfl)
  (have g8 := JA.out.cell 8 _ rfl)
  (clear hb hr hHeld Bd Jd Kd Xd Gd Ud)
  go_wp2_with fail
  refine hK.out _ _ ?_ (fun hHeld => ?_)
  · exact ⟨f0, f1, f2, f3, f4, f5, f6, f7, f8, g0, g1, g2, g3, g4, g5, g6, g7, g8⟩
  clear hK K
  try simp only [Act.put, List.setIfInBounds_toArray, List.set_cons_zero, List.set_cons_succ]
  refine callG 3 (by kernel_rfl) ?_
  intro o ho; simp only [List.getElem?_toArray, List.getElem?_cons_succ, List.getElem?_cons_zero, Option.some.injEq] at ho; subst ho; intro K hK
  go_simp
  go_at_call 9
  (with_reducible refine (HEQ.out _ _ _ _ _ _ _ XA.out.lies YA.out.lies).mono ?_)
  rintro e wB ⟨rfl, hb⟩
  (have B8 := hidH (bThen BA.out hb))
  (have sB := hb.size)
  (have J_8 := hidH (JA.out.below hb))
  (have K_8 := hidH (KA.out.below hb))
  (have X_8 := hidH (XA.out.below hb))
  (have G_8 := hidH (GA.out.below hb))
  (have U_8 := hidH (UA.out.below hb))
  (have h0 := K_8.out.cell 0 _ rfl)
  (have h1 := K_8.out.cell 1 _ rfl)
  (have h2 := K_8.out.cell 2 _ rfl)
  (have h3 := K_8.out.cell 3 _ rfl)
  (have h4 := K_8.out.cell 4 _ rfl)
  (have h5 := K_8.out.cell 5 _ rfl)
  (have h6 := K_8.out.cell 6 _ rfl)
  (have h7 := K_8.out.cell 7 _ rfl)
  (have h8 := K_8.out.cell 8 _ rfl)
  (have k0 := J_8.out.cell 0 _ rfl)
  (have k1 := J_8.out.cell 1 _ rfl)
  (have k2 := J_8.out.cell 2 _ rfl)
  (have k3 := J_8.out.cell 3 _ rfl)
  (have k4 := J_8.out.cell 4 _ rfl)
  (have k5 := J_8.out.cell 5 _ rfl)
  (have k6 := J_8.out.cell 6 _ rfl)
  (have k7 := J_8.out.cell 7 _ rfl)
  (have k8 := J_8.out.cell 8 _ rfl)
  (clear hb hHeld BA JA KA XA GA UA YA)
  go_wp2_with fail
  refine hK.out _ _ ?_ (fun hHeld => ?_)
  · exact ⟨h0, h1, h2, h3, h4, h5, h6, h7, h8, k0, k1, k2, k3, k4, k5, k6, k7, k8⟩
  clear hK K
  try simp only [Act.put, List.setIfInBounds_toArray, List.set_cons_zero, List.set_cons_succ]
  refine onG 4 (some 45) (v := ?v33_) (by kernel_rfl) (by kernel_rfl) (by kernel_rfl) (fun _ _ _ h => h) (by rfl) hHeld ?hy33_ ?rest33_
  case hy33_ =>
    intro o ho; simp only [List.getElem?_toArray, List.getElem?_cons_succ, List.getElem?_cons_zero, Option.some.injEq] at ho; subst ho; intro w hSw; (try dsimp only at hSw)
    go_simp
    try with_reducible rfl
  case rest33_ =>
  try simp only [Act.put, List.setIfInBounds_toArray, List.set_cons_zero, List.set_cons_succ]
  refine wpAnyH_done (by kernel_rfl) ?_ _
  clear d0 e0 f0 g0 h0 k0 d1 e1 f1 g1 h1 k1 d2 e2 f2 g2 h2 k2 d3 e3 f3 g3 h3 k3 d4 e4 f4 g4 h4 k4 d5 e5 f5 g5 h5 k5 d6 e6 f6 g6 h6 k6 d7 e7 f7 g7 h7 k7 d8 e8 f8 g8 h8 k8
  have q0 := K_8.out.cell 0 _ rfl
  have q1 := K_8.out.cell 1 _ rfl
  have q2 := K_8.out.cell 2 _ rfl
  have q3 := K_8.out.cell 3 _ rfl
  have q4 := K_8.out.cell 4 _ rfl
  have q5 := K_8.out.cell 5 _ rfl
  have q6 := K_8.out.cell 6 _ rfl
  have q7 := K_8.out.cell 7 _ rfl
  have q8 := K_8.out.cell 8 _ rfl
  go_wp2_with fail
  refine (HMK.out xa xc 1 _ _ _ X_8.out (by omega) (by omega)).mono ?_; rintro e w9 ⟨rfl, hr, ha⟩
  have s9 := ha.size
  have B9 := hidH (B8.out.trans (ha.below (by have := B8.out.size; omega) B8.out.size))
  have J_9 := hidH (J_8.out.apart ha (by omega))
  have U_9 := hidH (U_8.out.apart ha (by omega))
  have K_9 := hidH (K_8.out.apart ha (by omega))
  have G_9 := hidH (G_8.out.apart ha (by omega))
  have X_9 := hidH hr
  clear ha hr B8 J_8 U_8 X_8 K_8 G_8 q0 q1 q2 q3 q4 q5 q6 q7 q8
  clear X_9
  clear K_9
  go_wp2_with fail
  refine (eqInts_yes g u rs _ _ _ _ _ G_9.out.lies U_9.out.lies).mono ?_; rintro e w10 ⟨rfl, hb⟩
  have B10 := hidH (B9.out.trans (hb.mono B9.out.size))
  have s10 := hb.size
  have J_10 := hidH (J_9.out.below hb)
  have U_10 := hidH (U_9.out.below hb)
  have G_10 := hidH (G_9.out.below hb)
  clear hb B9 J_9 U_9 G_9 
  go_wp2_with fail
  refine (mark_any g rs 1 _ _ _ G_10.out (by omega) (by omega) hlen).mono ?_; rintro e w11 ⟨rfl, hr, ha⟩
  have s11 := ha.size
  have B11 := hidH (B10.out.trans (ha.below (by have := B10.out.size; omega) B10.out.size))
  have J_11 := hidH (J_10.out.apart ha (by omega))
  have U_11 := hidH (U_10.out.apart ha (by omega))
  have G_11 := hidH hr
  clear ha hr B10 J_10 U_10 G_10 
  go_wp2_with fail
  refine (held_any g 1 rs.length _ _ _ G_11.out.lies (by omega) (by omega) hlen).mono ?_; rintro e w12 ⟨rfl, hb⟩
  have B12 := hidH (B11.out.trans (hb.mono B11.out.size))
  have s12 := hb.size
  have J_12 := hidH (J_11.out.below hb)
  have U_12 := hidH (U_11.out.below hb)
  have G_12 := hidH (G_11.out.below hb)
  clear hb B11 J_11 U_11 G_11 
  have p0 := J_12.out.cell 0 _ rfl
  have p1 := J_12.out.cell 1 _ rfl
  have p2 := J_12.out.cell 2 _ rfl
  have p3 := J_12.out.cell 3 _ rfl
  have p4 := J_12.out.cell 4 _ rfl
  have p5 := J_12.out.cell 5 _ rfl
  have p6 := J_12.out.cell 6 _ rfl
  have p7 := J_12.out.cell 7 _ rfl
  have p8 := J_12.out.cell 8 _ rfl
  go_wp2_with fail
  refine (HTJ.out _ ((HV.out.below B12.out).mono (Nat.le_refl _) B12.out.size)).mono ?_; rintro e w13 ⟨ya, yc, rfl, hr, hb⟩
  have B13 := hidH (B12.out.trans (hb.mono B12.out.size))
  have s13 := hb.size
  have J_13 := hidH (J_12.out.below hb)
  have U_13 := hidH (U_12.out.below hb)
  have G_13 := hidH (G_12.out.below hb)
  have T_13 := hidH hr
  clear hb hr B12 J_12 U_12 G_12 p0 p1 p2 p3 p4 p5 p6 p7 p8
  go_wp2_with fail
  refine (HI.out _ _ _ _ T_13.out.lies).mono ?_; rintro e w14 ⟨h, rfl, hr, hb⟩
  have B14 := hidH (B13.out.trans (hb.mono B13.out.size))
  have s14 := hb.size
  have J_14 := hidH (J_13.out.below hb)
  have U_14 := hidH (U_13.out.below hb)
  have G_14 := hidH (G_13.out.below hb)
  have T_14 := hidH (T_13.out.below hb)
  have H_14 := hidH hr
  clear hb hr B13 J_13 U_13 G_13 T_13 
  go_wp2_with fail
  refine (eqInts_yes h u rs _ _ _ _ _ H_14.out.lies U_14.out.lies).mono ?_; rintro e w15 ⟨rfl, hb⟩
  have B15 := hidH (B14.out.trans (hb.mono B14.out.size))
  have s15 := hb.size
  have J_15 := hidH (J_14.out.below hb)
  have U_15 := hidH (U_14.out.below hb)
  have G_15 := hidH (G_14.out.below hb)
  have T_15 := hidH (T_14.out.below hb)
  have H_15 := hidH (H_14.out.below hb)
  clear hb B14 J_14 U_14 G_14 T_14 H_14 
  go_wp2_with fail
  refine (held_any g 1 rs.length _ _ _ G_15.out.lies (by omega) (by omega) hlen).mono ?_; rintro e w16 ⟨rfl, hb⟩
  have B16 := hidH (B15.out.trans (hb.mono B15.out.size))
  have s16 := hb.size
  have J_16 := hidH (J_15.out.below hb)
  have U_16 := hidH (U_15.out.below hb)
  have G_16 := hidH (G_15.out.below hb)
  have T_16 := hidH (T_15.out.below hb)
  have H_16 := hidH (H_15.out.below hb)
  clear hb B15 J_15 U_15 G_15 T_15 H_15 
  go_wp2_with fail
  go_ret
  exact ⟨rfl, B16.out⟩
end Go.Proofs.Ytieealgmmkkgoaa
