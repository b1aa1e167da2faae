/-
  The draws of layouts with a number. No conditions but that the bytes that came in can be read.
-/
import Derived.Test.YtnndeiiolnefkaaRkD
namespace Go.Proofs.Ytnndeiiolnefkaa
set_option maxRecDepth 4000
open Go.RowKit
theorem Came.below {w w' : World} {a : Option Addr} {len cap : Nat} (h : Came w a len cap) (hb : Below w.heap.size w w') : Came w' a len cap :=
  ⟨h.lenLe, h.capLe, fun j hj => by
    obtain ⟨b, off, x, e, hlt, x1, x2, hc⟩ := h.bytes j hj
    exact ⟨b, off, x, e, Nat.lt_of_lt_of_le hlt hb.size, x1, x2, by rw [hb.cell (p := ⟨b, off + j, none⟩) hlt]; exact hc⟩, h.ofNil⟩
/-- What stands behind the call in a statement that hands a layout back. -/
def AfterLN (w : World) (lb : Nat) (X Y Z : Int) (wd : World) : Prop :=
  wd.cell? ⟨w.heap.size, 0, none⟩ = some (.int .i64 0) ∧ wd.cell? ⟨w.heap.size, 1, none⟩ = some (.int .i64 0) ∧ wd.cell? ⟨w.heap.size, 2, none⟩ = some (.int .i64 0) ∧ (∀ k, wd.frozen? ⟨w.heap.size, k, none⟩ = false) ∧
  wd.cell? ⟨lb, 0, none⟩ = some (.int .i64 X) ∧ wd.cell? ⟨lb, 1, none⟩ = some (.int .i64 Y) ∧ wd.cell? ⟨lb, 2, none⟩ = some (.int .i64 Z) ∧
  Hid (LayAt (((wd.setCell ⟨w.heap.size, 0, none⟩ (.int .i64 X)).setCell ⟨w.heap.size, 1, none⟩ (.int .i64 Y)).setCell ⟨w.heap.size, 2, none⟩ (.int .i64 Z)) w.heap.size X Y Z) ∧
  Hid (Below w.heap.size w (((wd.setCell ⟨w.heap.size, 0, none⟩ (.int .i64 X)).setCell ⟨w.heap.size, 1, none⟩ (.int .i64 Y)).setCell ⟨w.heap.size, 2, none⟩ (.int .i64 Z)))
theorem afterLN {w wd : World} {lb : Nat} {X Y Z : Int} (hT : LayAt wd w.heap.size 0 0 0) (hL : LayAt wd lb X Y Z) (hB : Below w.heap.size w wd) : AfterLN w lb X Y Z wd :=
  ⟨hT.cell0, hT.cell1, hT.cell2, hT.thaw, hL.cell0, hL.cell1, hL.cell2, hidH (((hT.set0 X).set1 Y).set2 Z),
    hidH (((hB.setCell (p := ⟨w.heap.size, 0, none⟩) (Nat.le_refl _) (.int .i64 X)).setCell (p := ⟨w.heap.size, 1, none⟩) (Nat.le_refl _) (.int .i64 Y)).setCell (p := ⟨w.heap.size, 2, none⟩) (Nat.le_refl _) (.int .i64 Z))⟩
/-- A drawn layout with a number. -/
def DrawLN (w : World) (e : Ending) (w' : World) : Prop := ∃ R A W c : Int, e = .returned (.tuple #[layV R A W, .int .i64 c]) ∧ Below w.heap.size w w'
def pnNums : List Int := [-1, 60, 61, 9223372036854775807]
/-- A function that returns a layout and a number. -/
theorem results_layN {fn : Func} {p u : Tmp} (h : fn.results = #[.cell p 38, .tmp u]) (tmps : Array Value) (w : World) (g : Nat) (R A W : Int) (b : Value)
    (hp : tmps.getD p undef = .pointer (some ⟨g, 0, none⟩)) (hu : tmps.getD u undef = b) (hg : LayAt w g R A W) : (results fn tmps).run Try.prog w = .ok (.tuple #[layV R A W, b]) w := by
  rw [results_cell_tmp h, hp, hu]
  have hr := run_loadVar_row (P := Try.prog) w g 38 38 #[.int .i64 R, .int .i64 A, .int .i64 W] (0, 0) _ hg Try.underlying38 rfl (layd_size _ _ _)
  simp [asAddr, hr, layV]
set_option maxHeartbeats 1600000 in
theorem drawPagesNeeded (a : Option Addr) (len cap : Nat) (w : World) (hc : Came w a len cap) (hl : len ≤ 1048576) : Calls Try.prog 43 #[.slice a len cap] w (DrawLN w) := by
  have HO := hidH (opened_any a len cap (w.alloc (.cells #[.int .i64 0, .int .i64 0, .int .i64 0] 38)) (hc.below (bMore (Below.refl _ _) (.cells #[.int .i64 0, .int .i64 0, .int .i64 0] 38))) hl)
  have T_0 := hidH (LayAt.fresh w 0 0 0)
  have z0 : (w.alloc (.cells #[.int .i64 0, .int .i64 0, .int .i64 0] 38)).heap.size = w.heap.size + 1 := by simp
  have B0 := hidH (bMore (Below.refl w.heap.size w) (.cells #[.int .i64 0, .int .i64 0, .int .i64 0] 38))
  clear hc
  unfold layC at *
  go_enter Try.func43, Try.ntmps43
  go_wp2_with fail
  refine HO.out.mono ?_
  rintro e w1 ⟨rfl, hR, hB⟩
  rw [z0] at hR
  have hR0 := hR
  have R1 := hidH hR
  have s1 := hB.size
  have hr1 := hR.lt
  have T_1 := hidH (T_0.out.below hB)
  have B1 := hidH (bThen B0.out hB)
  have O1 := hidH (Onto.refl (w.heap.size + 1) w1)
  clear hR hR0 hB HO T_0 B0
  have cT0 := T_1.out.cell0
  have cT1 := T_1.out.cell1
  have cT2 := T_1.out.cell2
  have tT := T_1.out.thaw
  go_wp2_with fail
  clear cT0 cT1 cT2 tT
  refine (layout6_any (w.heap.size + 1) _ _ R1.out (by omega)).mono ?_
  rintro e w2 ⟨X, Y, Z, rfl, hR, hO⟩
  have R2 := hidH hR
  have O2 := hidH (O1.out.trans hO)
  have z2 := hO.size
  have T_2 := hidH (T_1.out.onto hO (by omega))
  clear hR hO
  unfold layV
  have cT0 := T_2.out.cell0
  have cT1 := T_2.out.cell1
  have cT2 := T_2.out.cell2
  have tT := T_2.out.thaw
  go_wp2_with fail
  clear cT0 cT1 cT2 tT
  have L_3 := hidH (LayAt.fresh w2 X Y Z)
  have T_3 := hidH (T_2.out.below (bMore (Below.refl _ _) (layC X Y Z)))
  have R3 := hidH (R2.out.onto (bMore (Below.refl _ _) (layC X Y Z)))
  have O3 := hidH (O2.out.alloc (layC X Y Z))
  have z3 : (w2.alloc (layC X Y Z)).heap.size = w2.heap.size + 1 := by simp
  unfold layC at *
  clear R2 O2 T_2
  have cT0 := T_3.out.cell0
  have cT1 := T_3.out.cell1
  have cT2 := T_3.out.cell2
  have tT := T_3.out.thaw
  have cL0 := L_3.out.cell0
  have cL1 := L_3.out.cell1
  have cL2 := L_3.out.cell2
  have tL := L_3.out.thaw
  clear cT0 cT1 cT2 tT
  clear cL0 cL1 cL2 tL
  refine (pick_any 12 (w.heap.size + 1) _ _ R3.out (by omega)).mono ?_
  rintro e w4 ⟨x, rfl, x0, x1, hR, hO⟩
  have R4 := hidH hR
  have O4 := hidH (O3.out.trans hO)
  have z4 := hO.size
  have T_4 := hidH (T_3.out.onto hO (by omega))
  have L_4 := hidH (L_3.out.onto hO (by omega))
  clear x0 x1 hR hO
  by_cases e1 : x = 0
  · have b1 : (x == 0) = true := beq_iff_eq.2 e1
    clear e1
    have HQ1 := hidH (show Calls Try.prog 52 #[.pointer (some ⟨w.heap.size + 1, 0, none⟩), .slice (some ⟨w4.heap.size, 0, none⟩) pnNums.length pnNums.length] (w4.alloc (.cells (intC pnNums) 3)).drew (fun e wd => ∃ t : Int, e = .returned (.int .i64 t) ∧ AfterLN w w2.heap.size X Y Z wd) from by
      have hN := num_any w4.heap.size 0 pnNums (w.heap.size + 1) _ (w4.alloc (.cells (intC pnNums) 3)).drew (R4.out.onto (((Below.refl _ _).alloc (Nat.le_refl _) (.cells (intC pnNums) 3)).drew)) (by omega) (by decide) (by decide) (show Ints (w4.alloc (.cells (intC pnNums) 3)).drew _ _ _ from ints_new _ _ _ _ R4.out.lt)
      refine hN.mono ?_
      rintro e wd ⟨t, hz, rfl, hR, hO⟩
      have hOn := (((Onto.refl (w.heap.size + 1) w4).alloc (.cells (intC pnNums) 3)).drewN 1).trans hO
      exact ⟨t, rfl, afterLN (T_4.out.onto hOn (by omega)) (L_4.out.onto hOn (by omega)) (B1.out.trans ((O4.out.trans hOn).below (Nat.le_succ _) (by omega)))⟩)
    have HQ0 := hidH (show Calls Try.prog 52 #[.pointer (some ⟨w.heap.size + 1, 0, none⟩), .slice (some ⟨w4.heap.size, 0, none⟩) pnNums.length pnNums.length] (w4.alloc (.cells (intC pnNums) 3)) (fun e wd => ∃ t : Int, e = .returned (.int .i64 t) ∧ AfterLN w w2.heap.size X Y Z wd) from by
      have hN := num_any w4.heap.size 0 pnNums (w.heap.size + 1) _ (w4.alloc (.cells (intC pnNums) 3)) (R4.out.onto ((Below.refl _ _).alloc (Nat.le_refl _) (.cells (intC pnNums) 3))) (by omega) (by decide) (by decide) (show Ints (w4.alloc (.cells (intC pnNums) 3)) _ _ _ from ints_new _ _ _ _ R4.out.lt)
      refine hN.mono ?_
      rintro e wd ⟨t, hz, rfl, hR, hO⟩
      have hOn := ((Onto.refl (w.heap.size + 1) w4).alloc (.cells (intC pnNums) 3)).trans hO
      exact ⟨t, rfl, afterLN (T_4.out.onto hOn (by omega)) (L_4.out.onto hOn (by omega)) (B1.out.trans ((O4.out.trans hOn).below (Nat.le_succ _) (by omega)))⟩)
    have hlL := L_4.out.lt
    have hlT := T_4.out.lt
    have cT0 := T_4.out.cell0
    have cT1 := T_4.out.cell1
    have cT2 := T_4.out.cell2
    have tT := T_4.out.thaw
    have cL0 := L_4.out.cell0
    have cL1 := L_4.out.cell1
    have cL2 := L_4.out.cell2
    have tL := L_4.out.thaw
    go_wp2_with fail
    go_region_with ((go_at_call 52; first | ((refine HQ1.out.mono ?_); rintro e wd ⟨t, rfl, e0, e1, e2, e3, g0, g1, g2, HG, HB⟩) | ((refine HQ0.out.mono ?_); rintro e wd ⟨t, rfl, e0, e1, e2, e3, g0, g1, g2, HG, HB⟩)))
    all_goals (
      go_wp2_with fail
      refine bodyPost_ret (results_layN Try.results43 _ _ w.heap.size X Y Z _ rfl rfl (by exact HG.out)) rfl ?_
      exact ⟨_, _, _, _, rfl, by first | exact HB.out | exact HB.out.drew⟩)
  · have b1 : (x == 0) = false := beq_eq_false_iff_ne.2 e1
    clear e1
    have HQ1 := hidH (show Calls Try.prog 51 #[.pointer (some ⟨w.heap.size + 1, 0, none⟩), .int .i64 61] w4.drew (fun e wd => ∃ t : Int, e = .returned (.int .i64 t) ∧ AfterLN w w2.heap.size X Y Z wd) from by
      refine (pick_any 61 (w.heap.size + 1) _ _ (R4.out.onto (Below.refl _ _).drew) (by omega)).mono ?_
      rintro e wd ⟨t, rfl, t0, t1, hR, hO⟩
      have hOn := ((Onto.refl (w.heap.size + 1) w4).drewN 1).trans hO
      exact ⟨t, rfl, afterLN (T_4.out.onto hOn (by omega)) (L_4.out.onto hOn (by omega)) (B1.out.trans ((O4.out.trans hOn).below (Nat.le_succ _) (by omega)))⟩)
    have HQ0 := hidH (show Calls Try.prog 51 #[.pointer (some ⟨w.heap.size + 1, 0, none⟩), .int .i64 61] w4 (fun e wd => ∃ t : Int, e = .returned (.int .i64 t) ∧ AfterLN w w2.heap.size X Y Z wd) from by
      refine (pick_any 61 (w.heap.size + 1) _ _ R4.out (by omega)).mono ?_
      rintro e wd ⟨t, rfl, t0, t1, hR, hO⟩
      have hOn := (Onto.refl (w.heap.size + 1) w4).trans hO
      exact ⟨t, rfl, afterLN (T_4.out.onto hOn (by omega)) (L_4.out.onto hOn (by omega)) (B1.out.trans ((O4.out.trans hOn).below (Nat.le_succ _) (by omega)))⟩)
    have cT0 := T_4.out.cell0
    have cT1 := T_4.out.cell1
    have cT2 := T_4.out.cell2
    have tT := T_4.out.thaw
    have cL0 := L_4.out.cell0
    have cL1 := L_4.out.cell1
    have cL2 := L_4.out.cell2
    have tL := L_4.out.thaw
    go_wp2_with fail
    go_region_with ((go_at_call 51; first | ((with_reducible refine HQ1.out.mono ?_); rintro e wd ⟨t, rfl, e0, e1, e2, e3, g0, g1, g2, HG, HB⟩) | ((with_reducible refine HQ0.out.mono ?_); rintro e wd ⟨t, rfl, e0, e1, e2, e3, g0, g1, g2, HG, HB⟩)))
    all_goals (
      go_wp2_with fail
      refine bodyPost_ret (results_layN Try.results43 _ _ w.heap.size X Y Z _ rfl rfl (by exact HG.out)) rfl ?_
      exact ⟨_, _, _, _, rfl, by first | exact HB.out | exact HB.out.drew⟩)
theorem drawPlaceOf (a : Option Addr) (len cap : Nat) (w : World) (hc : Came w a len cap) (hl : len ≤ 1048576) : Calls Try.prog 20 #[.slice a len cap] w (DrawLN w) := by
  have HD := hidH (drawPagesNeeded a len cap (w.alloc (.cells #[.int .i64 0, .int .i64 0, .int .i64 0] 38)) (hc.below (bMore (Below.refl _ _) (.cells #[.int .i64 0, .int .i64 0, .int .i64 0] 38))) hl)
  have T_0 := hidH (LayAt.fresh w 0 0 0)
  have B0 := hidH (bMore (Below.refl w.heap.size w) (.cells #[.int .i64 0, .int .i64 0, .int .i64 0] 38))
  clear hc
  unfold layC at *
  go_enter Try.func20, Try.ntmps20
  go_wp2_with fail
  refine HD.out.mono ?_
  rintro e w1 ⟨X, Y, Z, c, rfl, hB⟩
  have B1 := hidH (bThen B0.out hB)
  have T_1 := hidH (T_0.out.below hB)
  have e0 := T_1.out.cell0
  have e1 := T_1.out.cell1
  have e2 := T_1.out.cell2
  have e3 := T_1.out.thaw
  have HG := hidH (((T_1.out.set0 X).set1 Y).set2 Z)
  have HB := hidH (((B1.out.setCell (p := ⟨w.heap.size, 0, none⟩) (Nat.le_refl _) (.int .i64 X)).setCell (p := ⟨w.heap.size, 1, none⟩) (Nat.le_refl _) (.int .i64 Y)).setCell (p := ⟨w.heap.size, 2, none⟩) (Nat.le_refl _) (.int .i64 Z))
  clear hB HD B0 T_0
  unfold layV
  go_wp2_with fail
  refine bodyPost_ret (results_layN Try.results20 _ _ w.heap.size X Y Z _ rfl rfl (by exact HG.out)) rfl ?_
  exact ⟨_, _, _, _, rfl, HB.out⟩
/-- A drawn layout with three numbers. -/
def DrawL3 (w : World) (e : Ending) (w' : World) : Prop := ∃ R A W p r c : Int, e = .returned (.tuple #[layV R A W, .int .i64 p, .int .i64 r, .int .i64 c]) ∧ Below w.heap.size w w'
def ipNums1 : List Int := [-1, 59, 60, 9223372036854775807]
def ipNums2 : List Int := [-1, 9223372036854775807]
theorem results_lay3 {fn : Func} {p u x y : Tmp} (h : fn.results = #[.cell p 38, .tmp u, .tmp x, .tmp y]) (tmps : Array Value) (w : World) (g : Nat) (R A W : Int) (b c d : Value)
    (hp : tmps.getD p undef = .pointer (some ⟨g, 0, none⟩)) (hu : tmps.getD u undef = b) (hx : tmps.getD x undef = c) (hy : tmps.getD y undef = d) (hg : LayAt w g R A W) : (results fn tmps).run Try.prog w = .ok (.tuple #[layV R A W, b, c, d]) w := by
  have hr := run_loadVar_row (P := Try.prog) w g 38 38 #[.int .i64 R, .int .i64 A, .int .i64 W] (0, 0) _ hg Try.underlying38 rfl (layd_size _ _ _)
  have hp' : tmps[p]?.getD undef = .pointer (some ⟨g, 0, none⟩) := by simpa using hp
  subst hu; subst hx; subst hy
  simp [results, h, hp', asAddr, hr, layV]
set_option maxHeartbeats 3200000 in
theorem drawIndexOfPlace (a : Option Addr) (len cap : Nat) (w : World) (hc : Came w a len cap) (hl : len ≤ 1048576) : Calls Try.prog 25 #[.slice a len cap] w (DrawL3 w) := by
  have HO := hidH (opened_any a len cap (w.alloc (.cells #[.int .i64 0, .int .i64 0, .int .i64 0] 38)) (hc.below (bMore (Below.refl _ _) (.cells #[.int .i64 0, .int .i64 0, .int .i64 0] 38))) hl)
  have T_0 := hidH (LayAt.fresh w 0 0 0)
  have z0 : (w.alloc (.cells #[.int .i64 0, .int .i64 0, .int .i64 0] 38)).heap.size = w.heap.size + 1 := by simp
  have B0 := hidH (bMore (Below.refl w.heap.size w) (.cells #[.int .i64 0, .int .i64 0, .int .i64 0] 38))
  clear hc
  unfold layC at *
  go_enter Try.func25, Try.ntmps25
  go_wp2_with fail
  refine HO.out.mono ?_
  rintro e w1 ⟨rfl, hR, hB⟩
  rw [z0] at hR
  have hR0 := hR
  have R1 := hidH hR
  have s1 := hB.size
  have hr1 := hR.lt
  have T_1 := hidH (T_0.out.below hB)
  have B1 := hidH (bThen B0.out hB)
  have O1 := hidH (Onto.refl (w.heap.size + 1) w1)
  clear hR hR0 hB HO T_0 B0
  have cT0 := T_1.out.cell0
  have cT1 := T_1.out.cell1
  have cT2 := T_1.out.cell2
  have tT := T_1.out.thaw
  go_wp2_with fail
  clear cT0 cT1 cT2 tT
  refine (layout6_any (w.heap.size + 1) _ _ R1.out (by omega)).mono ?_
  rintro e w2 ⟨X, Y, Z, rfl, hR, hO⟩
  have R2 := hidH hR
  have O2 := hidH (O1.out.trans hO)
  have z2 := hO.size
  have T_2 := hidH (T_1.out.onto hO (by omega))
  clear hR hO
  unfold layV
  have cT0 := T_2.out.cell0
  have cT1 := T_2.out.cell1
  have cT2 := T_2.out.cell2
  have tT := T_2.out.thaw
  go_wp2_with fail
  clear cT0 cT1 cT2 tT
  have L_3 := hidH (LayAt.fresh w2 X Y Z)
  have T_3 := hidH (T_2.out.below (bMore (Below.refl _ _) (layC X Y Z)))
  have R3 := hidH (R2.out.onto (bMore (Below.refl _ _) (layC X Y Z)))
  have O3 := hidH (O2.out.alloc (layC X Y Z))
  have z3 : (w2.alloc (layC X Y Z)).heap.size = w2.heap.size + 1 := by simp
  unfold layC at *
  clear R2 O2 T_2
  have cT0 := T_3.out.cell0
  have cT1 := T_3.out.cell1
  have cT2 := T_3.out.cell2
  have tT := T_3.out.thaw
  have cL0 := L_3.out.cell0
  have cL1 := L_3.out.cell1
  have cL2 := L_3.out.cell2
  have tL := L_3.out.thaw
  clear cT0 cT1 cT2 tT
  clear cL0 cL1 cL2 tL
  refine (pick_any 4 (w.heap.size + 1) _ _ R3.out (by omega)).mono ?_
  rintro e w4 ⟨p, rfl, x0, x1, hR, hO⟩
  have R4 := hidH hR
  have O4 := hidH (O3.out.trans hO)
  have z4 := hO.size
  have T_4 := hidH (T_3.out.onto hO (by omega))
  have L_4 := hidH (L_3.out.onto hO (by omega))
  clear x0 x1 hR hO
  have cT0 := T_4.out.cell0
  have cT1 := T_4.out.cell1
  have cT2 := T_4.out.cell2
  have tT := T_4.out.thaw
  have cL0 := L_4.out.cell0
  have cL1 := L_4.out.cell1
  have cL2 := L_4.out.cell2
  have tL := L_4.out.thaw
  go_wp2_with fail
  clear cT0 cT1 cT2 tT
  clear cL0 cL1 cL2 tL
  refine (pick_any 7 (w.heap.size + 1) _ _ R4.out (by omega)).mono ?_
  rintro e w5 ⟨q, rfl, x0, x1, hR, hO⟩
  have R5 := hidH hR
  have O5 := hidH (O4.out.trans hO)
  have z5 := hO.size
  have T_5 := hidH (T_4.out.onto hO (by omega))
  have L_5 := hidH (L_4.out.onto hO (by omega))
  clear x0 x1 hR hO
  have cT0 := T_5.out.cell0
  have cT1 := T_5.out.cell1
  have cT2 := T_5.out.cell2
  have tT := T_5.out.thaw
  have cL0 := L_5.out.cell0
  have cL1 := L_5.out.cell1
  have cL2 := L_5.out.cell2
  have tL := L_5.out.thaw
  go_wp2_with fail
  clear cT0 cT1 cT2 tT
  clear cL0 cL1 cL2 tL
  refine (pick_any 12 (w.heap.size + 1) _ _ R5.out (by omega)).mono ?_
  rintro e w6 ⟨x, rfl, x0, x1, hR, hO⟩
  have R6 := hidH hR
  have O6 := hidH (O5.out.trans hO)
  have z6 := hO.size
  have T_6 := hidH (T_5.out.onto hO (by omega))
  have L_6 := hidH (L_5.out.onto hO (by omega))
  clear x0 x1 hR hO
  by_cases e1 : x = 0
  · have b1 : (x == 0) = true := beq_iff_eq.2 e1
    clear e1
    have cT0 := T_6.out.cell0
    have cT1 := T_6.out.cell1
    have cT2 := T_6.out.cell2
    have tT := T_6.out.thaw
    have cL0 := L_6.out.cell0
    have cL1 := L_6.out.cell1
    have cL2 := L_6.out.cell2
    have tL := L_6.out.thaw
    go_wp2_with fail
    clear cT0 cT1 cT2 tT
    clear cL0 cL1 cL2 tL
    have hN := num_any w6.heap.size 0 ipNums1 (w.heap.size + 1) _ (w6.alloc (.cells (intC ipNums1) 3)) (R6.out.onto ((Below.refl _ _).alloc (Nat.le_refl _) _)) (by omega) (by decide) (by decide) (ints_new _ _ _ _ R6.out.lt)
    refine hN.mono ?_
    rintro e w7 ⟨p2, hz, rfl, hR, hO⟩
    have hOn := ((Onto.refl (w.heap.size + 1) w6).alloc (.cells (intC ipNums1) 3)).trans hO
    have R7 := hidH hR
    have O7 := hidH (O6.out.trans hOn)
    have z7 := hOn.size
    have T_7 := hidH (T_6.out.onto hOn (by omega))
    have L_7 := hidH (L_6.out.onto hOn (by omega))
    clear hN hz hR hO hOn
    have cT0 := T_7.out.cell0
    have cT1 := T_7.out.cell1
    have cT2 := T_7.out.cell2
    have tT := T_7.out.thaw
    have cL0 := L_7.out.cell0
    have cL1 := L_7.out.cell1
    have cL2 := L_7.out.cell2
    have tL := L_7.out.thaw
    go_wp2_with fail
    clear cT0 cT1 cT2 tT
    clear cL0 cL1 cL2 tL
    refine (pick_any 12 (w.heap.size + 1) _ _ R7.out (by omega)).mono ?_
    rintro e w8 ⟨y, rfl, y0, y1, hR, hO⟩
    have R8 := hidH hR
    have O8 := hidH (O7.out.trans hO)
    have z8 := hO.size
    have T_8 := hidH (T_7.out.onto hO (by omega))
    have L_8 := hidH (L_7.out.onto hO (by omega))
    clear y0 y1 hR hO
    by_cases e2 : y = 0
    · have b2 : (y == 0) = true := beq_iff_eq.2 e2
      clear e2
      have cT0 := T_8.out.cell0
      have cT1 := T_8.out.cell1
      have cT2 := T_8.out.cell2
      have tT := T_8.out.thaw
      have cL0 := L_8.out.cell0
      have cL1 := L_8.out.cell1
      have cL2 := L_8.out.cell2
      have tL := L_8.out.thaw
      go_wp2_with fail
      clear cT0 cT1 cT2 tT
      clear cL0 cL1 cL2 tL
      have hN := num_any w8.heap.size 0 ipNums2 (w.heap.size + 1) _ (w8.alloc (.cells (intC ipNums2) 3)) (R8.out.onto ((Below.refl _ _).alloc (Nat.le_refl _) _)) (by omega) (by decide) (by decide) (ints_new _ _ _ _ R8.out.lt)
      refine hN.mono ?_
      rintro e w9 ⟨q2, hz, rfl, hR, hO⟩
      have hOn := ((Onto.refl (w.heap.size + 1) w8).alloc (.cells (intC ipNums2) 3)).trans hO
      have R9 := hidH hR
      have O9 := hidH (O8.out.trans hOn)
      have z9 := hOn.size
      have T_9 := hidH (T_8.out.onto hOn (by omega))
      have L_9 := hidH (L_8.out.onto hOn (by omega))
      clear hN hz hR hO hOn
      have HQ1 := hidH (show Calls Try.prog 51 #[.pointer (some ⟨w.heap.size + 1, 0, none⟩), .int .i64 5] w9.drew (fun e wd => ∃ t : Int, e = .returned (.int .i64 t) ∧ AfterLN w w2.heap.size X Y Z wd) from by
        refine (pick_any 5 (w.heap.size + 1) _ _ (R9.out.onto (Below.refl _ _).drew) (by omega)).mono ?_
        rintro e wd ⟨t, rfl, t0, t1, hR, hO⟩
        have hOn := ((Onto.refl (w.heap.size + 1) w9).drewN 1).trans hO
        exact ⟨t, rfl, afterLN (T_9.out.onto hOn (by omega)) (L_9.out.onto hOn (by omega)) (B1.out.trans ((O9.out.trans hOn).below (Nat.le_succ _) (by omega)))⟩)
      have HQ0 := hidH (show Calls Try.prog 51 #[.pointer (some ⟨w.heap.size + 1, 0, none⟩), .int .i64 5] w9 (fun e wd => ∃ t : Int, e = .returned (.int .i64 t) ∧ AfterLN w w2.heap.size X Y Z wd) from by
        refine (pick_any 5 (w.heap.size + 1) _ _ R9.out (by omega)).mono ?_
        rintro e wd ⟨t, rfl, t0, t1, hR, hO⟩
        have hOn := (Onto.refl (w.heap.size + 1) w9).trans hO
        exact ⟨t, rfl, afterLN (T_9.out.onto hOn (by omega)) (L_9.out.onto hOn (by omega)) (B1.out.trans ((O9.out.trans hOn).below (Nat.le_succ _) (by omega)))⟩)
      have hlL := L_9.out.lt
      have hlT := T_9.out.lt
      have cT0 := T_9.out.cell0
      have cT1 := T_9.out.cell1
      have cT2 := T_9.out.cell2
      have tT := T_9.out.thaw
      have cL0 := L_9.out.cell0
      have cL1 := L_9.out.cell1
      have cL2 := L_9.out.cell2
      have tL := L_9.out.thaw
      go_wp2_with fail
      go_region_with ((go_at_call 51; first | ((with_reducible refine HQ1.out.mono ?_); rintro e wd ⟨t, rfl, e0, e1, e2, e3, g0, g1, g2, HG, HB⟩) | ((with_reducible refine HQ0.out.mono ?_); rintro e wd ⟨t, rfl, e0, e1, e2, e3, g0, g1, g2, HG, HB⟩)))
      all_goals (
        go_wp2_with fail
        refine bodyPost_ret (results_lay3 Try.results25 _ _ w.heap.size X Y Z _ _ _ rfl rfl rfl rfl (by exact HG.out)) rfl ?_
        exact ⟨_, _, _, _, _, _, rfl, by first | exact HB.out | exact HB.out.drew⟩)
    · have b2 : (y == 0) = false := beq_eq_false_iff_ne.2 e2
      clear e2
      have HQ1 := hidH (show Calls Try.prog 51 #[.pointer (some ⟨w.heap.size + 1, 0, none⟩), .int .i64 5] w8.drew (fun e wd => ∃ t : Int, e = .returned (.int .i64 t) ∧ AfterLN w w2.heap.size X Y Z wd) from by
        refine (pick_any 5 (w.heap.size + 1) _ _ (R8.out.onto (Below.refl _ _).drew) (by omega)).mono ?_
        rintro e wd ⟨t, rfl, t0, t1, hR, hO⟩
        have hOn := ((Onto.refl (w.heap.size + 1) w8).drewN 1).trans hO
        exact ⟨t, rfl, afterLN (T_8.out.onto hOn (by omega)) (L_8.out.onto hOn (by omega)) (B1.out.trans ((O8.out.trans hOn).below (Nat.le_succ _) (by omega)))⟩)
      have HQ0 := hidH (show Calls Try.prog 51 #[.pointer (some ⟨w.heap.size + 1, 0, none⟩), .int .i64 5] w8 (fun e wd => ∃ t : Int, e = .returned (.int .i64 t) ∧ AfterLN w w2.heap.size X Y Z wd) from by
        refine (pick_any 5 (w.heap.size + 1) _ _ R8.out (by omega)).mono ?_
        rintro e wd ⟨t, rfl, t0, t1, hR, hO⟩
        have hOn := (Onto.refl (w.heap.size + 1) w8).trans hO
        exact ⟨t, rfl, afterLN (T_8.out.onto hOn (by omega)) (L_8.out.onto hOn (by omega)) (B1.out.trans ((O8.out.trans hOn).below (Nat.le_succ _) (by omega)))⟩)
      have hlL := L_8.out.lt
      have hlT := T_8.out.lt
      have cT0 := T_8.out.cell0
      have cT1 := T_8.out.cell1
      have cT2 := T_8.out.cell2
      have tT := T_8.out.thaw
      have cL0 := L_8.out.cell0
      have cL1 := L_8.out.cell1
      have cL2 := L_8.out.cell2
      have tL := L_8.out.thaw
      go_wp2_with fail
      go_region_with ((go_at_call 51; first | ((with_reducible refine HQ1.out.mono ?_); rintro e wd ⟨t, rfl, e0, e1, e2, e3, g0, g1, g2, HG, HB⟩) | ((with_reducible refine HQ0.out.mono ?_); rintro e wd ⟨t, rfl, e0, e1, e2, e3, g0, g1, g2, HG, HB⟩)))
      all_goals (
        go_wp2_with fail
        refine bodyPost_ret (results_lay3 Try.results25 _ _ w.heap.size X Y Z _ _ _ rfl rfl rfl rfl (by exact HG.out)) rfl ?_
        exact ⟨_, _, _, _, _, _, rfl, by first | exact HB.out | exact HB.out.drew⟩)
  · have b1 : (x == 0) = false := beq_eq_false_iff_ne.2 e1
    clear e1
    have cT0 := T_6.out.cell0
    have cT1 := T_6.out.cell1
    have cT2 := T_6.out.cell2
    have tT := T_6.out.thaw
    have cL0 := L_6.out.cell0
    have cL1 := L_6.out.cell1
    have cL2 := L_6.out.cell2
    have tL := L_6.out.thaw
    go_wp2_with fail
    clear cT0 cT1 cT2 tT
    clear cL0 cL1 cL2 tL
    refine (pick_any 12 (w.heap.size + 1) _ _ R6.out (by omega)).mono ?_
    rintro e w7 ⟨y, rfl, y0, y1, hR, hO⟩
    have R7 := hidH hR
    have O7 := hidH (O6.out.trans hO)
    have z7 := hO.size
    have T_7 := hidH (T_6.out.onto hO (by omega))
    have L_7 := hidH (L_6.out.onto hO (by omega))
    clear y0 y1 hR hO
    by_cases e2 : y = 0
    · have b2 : (y == 0) = true := beq_iff_eq.2 e2
      clear e2
      have cT0 := T_7.out.cell0
      have cT1 := T_7.out.cell1
      have cT2 := T_7.out.cell2
      have tT := T_7.out.thaw
      have cL0 := L_7.out.cell0
      have cL1 := L_7.out.cell1
      have cL2 := L_7.out.cell2
      have tL := L_7.out.thaw
      go_wp2_with fail
      clear cT0 cT1 cT2 tT
      clear cL0 cL1 cL2 tL
      have hN := num_any w7.heap.size 0 ipNums2 (w.heap.size + 1) _ (w7.alloc (.cells (intC ipNums2) 3)) (R7.out.onto ((Below.refl _ _).alloc (Nat.le_refl _) _)) (by omega) (by decide) (by decide) (ints_new _ _ _ _ R7.out.lt)
      refine hN.mono ?_
      rintro e w8 ⟨q2, hz, rfl, hR, hO⟩
      have hOn := ((Onto.refl (w.heap.size + 1) w7).alloc (.cells (intC ipNums2) 3)).trans hO
      have R8 := hidH hR
      have O8 := hidH (O7.out.trans hOn)
      have z8 := hOn.size
      have T_8 := hidH (T_7.out.onto hOn (by omega))
      have L_8 := hidH (L_7.out.onto hOn (by omega))
      clear hN hz hR hO hOn
      have HQ1 := hidH (show Calls Try.prog 51 #[.pointer (some ⟨w.heap.size + 1, 0, none⟩), .int .i64 5] w8.drew (fun e wd => ∃ t : Int, e = .returned (.int .i64 t) ∧ AfterLN w w2.heap.size X Y Z wd) from by
        refine (pick_any 5 (w.heap.size + 1) _ _ (R8.out.onto (Below.refl _ _).drew) (by omega)).mono ?_
        rintro e wd ⟨t, rfl, t0, t1, hR, hO⟩
        have hOn := ((Onto.refl (w.heap.size + 1) w8).drewN 1).trans hO
        exact ⟨t, rfl, afterLN (T_8.out.onto hOn (by omega)) (L_8.out.onto hOn (by omega)) (B1.out.trans ((O8.out.trans hOn).below (Nat.le_succ _) (by omega)))⟩)
      have HQ0 := hidH (show Calls Try.prog 51 #[.pointer (some ⟨w.heap.size + 1, 0, none⟩), .int .i64 5] w8 (fun e wd => ∃ t : Int, e = .returned (.int .i64 t) ∧ AfterLN w w2.heap.size X Y Z wd) from by
        refine (pick_any 5 (w.heap.size + 1) _ _ R8.out (by omega)).mono ?_
        rintro e wd ⟨t, rfl, t0, t1, hR, hO⟩
        have hOn := (Onto.refl (w.heap.size + 1) w8).trans hO
        exact ⟨t, rfl, afterLN (T_8.out.onto hOn (by omega)) (L_8.out.onto hOn (by omega)) (B1.out.trans ((O8.out.trans hOn).below (Nat.le_succ _) (by omega)))⟩)
      have hlL := L_8.out.lt
      have hlT := T_8.out.lt
      have cT0 := T_8.out.cell0
      have cT1 := T_8.out.cell1
      have cT2 := T_8.out.cell2
      have tT := T_8.out.thaw
      have cL0 := L_8.out.cell0
      have cL1 := L_8.out.cell1
      have cL2 := L_8.out.cell2
      have tL := L_8.out.thaw
      go_wp2_with fail
      go_region_with ((go_at_call 51; first | ((with_reducible refine HQ1.out.mono ?_); rintro e wd ⟨t, rfl, e0, e1, e2, e3, g0, g1, g2, HG, HB⟩) | ((with_reducible refine HQ0.out.mono ?_); rintro e wd ⟨t, rfl, e0, e1, e2, e3, g0, g1, g2, HG, HB⟩)))
      all_goals (
        go_wp2_with fail
        refine bodyPost_ret (results_lay3 Try.results25 _ _ w.heap.size X Y Z _ _ _ rfl rfl rfl rfl (by exact HG.out)) rfl ?_
        exact ⟨_, _, _, _, _, _, rfl, by first | exact HB.out | exact HB.out.drew⟩)
    · have b2 : (y == 0) = false := beq_eq_false_iff_ne.2 e2
      clear e2
      have HQ1 := hidH (show Calls Try.prog 51 #[.pointer (some ⟨w.heap.size + 1, 0, none⟩), .int .i64 5] w7.drew (fun e wd => ∃ t : Int, e = .returned (.int .i64 t) ∧ AfterLN w w2.heap.size X Y Z wd) from by
        refine (pick_any 5 (w.heap.size + 1) _ _ (R7.out.onto (Below.refl _ _).drew) (by omega)).mono ?_
        rintro e wd ⟨t, rfl, t0, t1, hR, hO⟩
        have hOn := ((Onto.refl (w.heap.size + 1) w7).drewN 1).trans hO
        exact ⟨t, rfl, afterLN (T_7.out.onto hOn (by omega)) (L_7.out.onto hOn (by omega)) (B1.out.trans ((O7.out.trans hOn).below (Nat.le_succ _) (by omega)))⟩)
      have HQ0 := hidH (show Calls Try.prog 51 #[.pointer (some ⟨w.heap.size + 1, 0, none⟩), .int .i64 5] w7 (fun e wd => ∃ t : Int, e = .returned (.int .i64 t) ∧ AfterLN w w2.heap.size X Y Z wd) from by
        refine (pick_any 5 (w.heap.size + 1) _ _ R7.out (by omega)).mono ?_
        rintro e wd ⟨t, rfl, t0, t1, hR, hO⟩
        have hOn := (Onto.refl (w.heap.size + 1) w7).trans hO
        exact ⟨t, rfl, afterLN (T_7.out.onto hOn (by omega)) (L_7.out.onto hOn (by omega)) (B1.out.trans ((O7.out.trans hOn).below (Nat.le_succ _) (by omega)))⟩)
      have hlL := L_7.out.lt
      have hlT := T_7.out.lt
      have cT0 := T_7.out.cell0
      have cT1 := T_7.out.cell1
      have cT2 := T_7.out.cell2
      have tT := T_7.out.thaw
      have cL0 := L_7.out.cell0
      have cL1 := L_7.out.cell1
      have cL2 := L_7.out.cell2
      have tL := L_7.out.thaw
      go_wp2_with fail
      go_region_with ((go_at_call 51; first | ((with_reducible refine HQ1.out.mono ?_); rintro e wd ⟨t, rfl, e0, e1, e2, e3, g0, g1, g2, HG, HB⟩) | ((with_reducible refine HQ0.out.mono ?_); rintro e wd ⟨t, rfl, e0, e1, e2, e3, g0, g1, g2, HG, HB⟩)))
      all_goals (
        go_wp2_with fail
        refine bodyPost_ret (results_lay3 Try.results25 _ _ w.heap.size X Y Z _ _ _ rfl rfl rfl rfl (by exact HG.out)) rfl ?_
        exact ⟨_, _, _, _, _, _, rfl, by first | exact HB.out | exact HB.out.drew⟩)
end Go.Proofs.Ytnndeiiolnefkaa
