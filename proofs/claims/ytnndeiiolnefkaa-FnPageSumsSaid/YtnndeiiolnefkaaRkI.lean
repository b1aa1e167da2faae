/-
  The draw of a layout, a table and a page. No conditions but that the bytes that came in can be read.
-/
import Derived.Test.YtnndeiiolnefkaaRkE
import Derived.Test.YtnndeiiolnefkaaRkG
import Derived.Test.YtnndeiiolnefkaaKitW
namespace Go.Proofs.Ytnndeiiolnefkaa
set_option maxRecDepth 4000
open Go.RowKit
theorem LayAt.ontoB {w w' : World} {r b base : Nat} {R A W : Int} (h : LayAt w b R A W) (ho : OntoB r base w w') (hb : b < base) (hr : b ≠ r) : LayAt w' b R A W := by
  unfold LayAt at *
  rw [ho.block b hb hr]; exact h
theorem Lies.setLow {w : World} {lo hi b : Nat} {v : Value} {zs : List Int} (h : Lies w lo hi v zs) (hb : b < lo) (i : Nat) (u : Value) : Lies (w.setCell ⟨b, i, none⟩ u) lo hi v zs :=
  h.apart (lo := b) (hi := b + 1) (Apart.of_onto (Onto.setCell b i w u) (Nat.le_refl _) (Nat.lt_succ_self _)) (.inr hb)
/-- What stands behind the last call in a statement that hands a layout and a table back. -/
def AfterLV (w : World) (lb : Nat) (X Y Z : Int) (v : Value) (zs : List Int) (wd : World) : Prop :=
  AfterLN w lb X Y Z wd ∧ Hid (Lies (((wd.setCell ⟨w.heap.size, 0, none⟩ (.int .i64 X)).setCell ⟨w.heap.size, 1, none⟩ (.int .i64 Y)).setCell ⟨w.heap.size, 2, none⟩ (.int .i64 Z)) (w.heap.size + 1) wd.heap.size v zs)
/-- A drawn layout with a table, sometimes none, and a page. -/
def DrawLV (w : World) (e : Ending) (w' : World) : Prop := ∃ (R A W p : Int) (v : Value) (zs : List Int), e = .returned (.tuple #[layV R A W, v, .int .i64 p]) ∧ Lies w' (w.heap.size + 1) w'.heap.size v zs ∧ zs.length ≤ 61 ∧ Below w.heap.size w w'
def plNums : List Int := [-1, 20, 9223372036854775807]
theorem results_layV2 {fn : Func} {p u x : Tmp} (h : fn.results = #[.cell p 38, .tmp u, .tmp x]) (tmps : Array Value) (w : World) (g : Nat) (R A W : Int) (b c : Value)
    (hp : tmps.getD p undef = .pointer (some ⟨g, 0, none⟩)) (hu : tmps.getD u undef = b) (hx : tmps.getD x undef = c) (hg : LayAt w g R A W) : (results fn tmps).run Try.prog w = .ok (.tuple #[layV R A W, b, c]) w := by
  have hr := run_loadVar_row (P := Try.prog) w g 38 38 #[.int .i64 R, .int .i64 A, .int .i64 W] (0, 0) _ hg Try.underlying38 rfl (layd_size _ _ _)
  have hp' : tmps[p]?.getD undef = .pointer (some ⟨g, 0, none⟩) := by simpa using hp
  subst hu; subst hx
  simp [results, h, hp', asAddr, hr, layV]
theorem sPagesNeeded_on (X Y Z c : Int) (w : World) : Calls Try.prog 55 #[.agg #[.int .i64 X, .int .i64 Y, .int .i64 Z], .int .i64 c] w (Gives (.int .i64 (pagesA X Y Z c)) w) := sPagesNeeded_any X Y Z c w
set_option maxHeartbeats 4000000 in
theorem drawPageLines (a : Option Addr) (len cap : Nat) (w : World) (hc : Came w a len cap) (hl : len ≤ 1048576) : Calls Try.prog 53 #[.slice a len cap] w (DrawLV w) := by
  have HO := hidH (opened_any a len cap (w.alloc (.cells #[.int .i64 0, .int .i64 0, .int .i64 0] 38)) (hc.below (bMore (Below.refl _ _) (.cells #[.int .i64 0, .int .i64 0, .int .i64 0] 38))) hl)
  have T_0 := hidH (LayAt.fresh w 0 0 0)
  have z0 : (w.alloc (.cells #[.int .i64 0, .int .i64 0, .int .i64 0] 38)).heap.size = w.heap.size + 1 := by simp
  have B0 := hidH (bMore (Below.refl w.heap.size w) (.cells #[.int .i64 0, .int .i64 0, .int .i64 0] 38))
  clear hc
  unfold layC at *
  go_enter Try.func53, Try.ntmps53
  go_wp2_with fail
  refine HO.out.mono ?_
  rintro e w1 ⟨rfl, hR, hB⟩
  rw [z0] at hR
  have hR0 := hR
  have R1 := hidH hR
  have s1 := hB.size
  have hr1 := hR.lt
  have T_1 := hidH (T_0.out.below hB)
  have B1 := hidH (bThen B0.out hB)
  have O1 := hidH (Onto.refl (w.heap.size + 1) w1)
  clear hR hR0 hB HO T_0 B0
  have cT0 := T_1.out.cell0
  have cT1 := T_1.out.cell1
  have cT2 := T_1.out.cell2
  have tT := T_1.out.thaw
  go_wp2_with fail
  clear cT0 cT1 cT2 tT
  refine (layout6_any (w.heap.size + 1) _ _ R1.out (by omega)).mono ?_
  rintro e w2 ⟨X, Y, Z, rfl, hR, hO⟩
  have R2 := hidH hR
  have O2 := hidH (O1.out.trans hO)
  have z2 := hO.size
  have T_2 := hidH (T_1.out.onto hO (by omega))
  clear hR hO
  unfold layV
  have cT0 := T_2.out.cell0
  have cT1 := T_2.out.cell1
  have cT2 := T_2.out.cell2
  have tT := T_2.out.thaw
  go_wp2_with fail
  clear cT0 cT1 cT2 tT
  have L_3 := hidH (LayAt.fresh w2 X Y Z)
  have T_3 := hidH (T_2.out.below (bMore (Below.refl _ _) (layC X Y Z)))
  have R3 := hidH (R2.out.onto (bMore (Below.refl _ _) (layC X Y Z)))
  have O3 := hidH (O2.out.alloc (layC X Y Z))
  have z3 : (w2.alloc (layC X Y Z)).heap.size = w2.heap.size + 1 := by simp
  unfold layC at *
  clear R2 O2 T_2
  refine (entries6_any (w.heap.size + 1) _ _ R3.out (by omega)).mono ?_
  rintro e w4 ⟨v, zs, rfl, hown, n1, n20, hR, hO⟩
  have R4 := hidH hR
  have O4 := hidH (O3.out.trans hO)
  have z4 := hO.size
  have T_4 := hidH (T_3.out.onto hO (by omega))
  have L_4 := hidH (L_3.out.onto hO (by omega))
  have E_4 := hidH (row_of_owns hown).1
  obtain ⟨va, vn, vc, hvf⟩ : ∃ a2 n2 c2, v = .slice a2 n2 c2 := by
    obtain ⟨a2, c2, e, _⟩ := E_4.out.lies
    exact ⟨a2, _, c2, e⟩
  have hvn : vn = zs.length := by obtain ⟨a2, c2, e, _⟩ := E_4.out.lies; rw [hvf] at e; injection e
  subst hvn
  subst hvf
  have bs5 : w2.heap.size + 1 ≤ (w2.alloc (.cells #[.int .i64 X, .int .i64 Y, .int .i64 Z] 38)).heap.size := by simp
  rw [show (w2.alloc (.cells #[.int .i64 X, .int .i64 Y, .int .i64 Z] 38)).heap.size = w2.heap.size + 1 by simp] at E_4
  clear hown hR hO bs5
  have HPN := hidH (fun W => sPagesNeeded_on X Y Z zs.length W)
  generalize pagesA X Y Z zs.length = pg at *
  have cT0 := T_4.out.cell0
  have cT1 := T_4.out.cell1
  have cT2 := T_4.out.cell2
  have tT := T_4.out.thaw
  have cL0 := L_4.out.cell0
  have cL1 := L_4.out.cell1
  have cL2 := L_4.out.cell2
  have tL := L_4.out.thaw
  go_wp2_with fail
  clear cT0 cT1 cT2 tT
  clear cL0 cL1 cL2 tL
  refine (HPN.out _).mono ?_; rintro e w5 ⟨rfl, hb⟩
  have R5 := hidH (R4.out.onto hb)
  have O5 := hidH (O4.out.trans (Onto.of_below hb))
  have z5 := hb.size
  have T_5 := hidH (T_4.out.below hb)
  have L_5 := hidH (L_4.out.below hb)
  have E_5 := hidH ((E_4.out.below hb).mono (Nat.le_refl _) hb.size)
  clear E_4
  clear hb HPN
  rcases (show pg < 1 ∨ 1 ≤ pg by omega) with hpg | hpg
  · have cT0 := T_5.out.cell0
    have cT1 := T_5.out.cell1
    have cT2 := T_5.out.cell2
    have tT := T_5.out.thaw
    have cL0 := L_5.out.cell0
    have cL1 := L_5.out.cell1
    have cL2 := L_5.out.cell2
    have tL := L_5.out.thaw
    go_wp2_with fail
    clear cT0 cT1 cT2 tT
    clear cL0 cL1 cL2 tL
    refine (pick_any _ (w.heap.size + 1) _ _ R5.out (by omega)).mono ?_; rintro e w6 ⟨p, rfl, x0, x1, hR, hO⟩
    have R6 := hidH hR
    have O6 := hidH (O5.out.trans hO)
    have z6 := hO.size
    have T_6 := hidH (T_5.out.onto hO (by omega))
    have L_6 := hidH (L_5.out.onto hO (by omega))
    have E_6 := hidH ((row_onto E_5.out hO (by omega)).mono (Nat.le_refl _) hO.size)
    clear E_5
    clear x0 x1 hR hO
    have cT0 := T_6.out.cell0
    have cT1 := T_6.out.cell1
    have cT2 := T_6.out.cell2
    have tT := T_6.out.thaw
    have cL0 := L_6.out.cell0
    have cL1 := L_6.out.cell1
    have cL2 := L_6.out.cell2
    have tL := L_6.out.thaw
    go_wp2_with fail
    clear cT0 cT1 cT2 tT
    clear cL0 cL1 cL2 tL
    refine (pick_any 12 (w.heap.size + 1) _ _ R6.out (by omega)).mono ?_; rintro e w7 ⟨x, rfl, x0, x1, hR, hO⟩
    have R7 := hidH hR
    have O7 := hidH (O6.out.trans hO)
    have z7 := hO.size
    have T_7 := hidH (T_6.out.onto hO (by omega))
    have L_7 := hidH (L_6.out.onto hO (by omega))
    have E_7 := hidH ((row_onto E_6.out hO (by omega)).mono (Nat.le_refl _) hO.size)
    clear E_6
    clear x0 x1 hR hO
    by_cases e1 : x = 0
    · have b1 : (x == 0) = true := beq_iff_eq.2 e1
      clear e1
      have cT0 := T_7.out.cell0
      have cT1 := T_7.out.cell1
      have cT2 := T_7.out.cell2
      have tT := T_7.out.thaw
      have cL0 := L_7.out.cell0
      have cL1 := L_7.out.cell1
      have cL2 := L_7.out.cell2
      have tL := L_7.out.thaw
      go_wp2_with fail
      clear cT0 cT1 cT2 tT
      clear cL0 cL1 cL2 tL
      have hN := num_any w7.heap.size 0 plNums (w.heap.size + 1) _ (w7.alloc (.cells (intC plNums) 3)) (R7.out.onto ((Below.refl _ _).alloc (Nat.le_refl _) _)) (by omega) (by decide) (by decide) (ints_new _ _ _ _ R7.out.lt)
      refine hN.mono ?_
      rintro e w8 ⟨p2, hz, rfl, hR, hO⟩
      have hOn := ((Onto.refl (w.heap.size + 1) w7).alloc (.cells (intC plNums) 3)).trans hO
      have R8 := hidH hR
      have O8 := hidH (O7.out.trans hOn)
      have z8 := hOn.size
      have T_8 := hidH (T_7.out.onto hOn (by omega))
      have L_8 := hidH (L_7.out.onto hOn (by omega))
      have E_8 := hidH ((row_onto E_7.out hOn (by omega)).mono (Nat.le_refl _) hOn.size)
      clear E_7
      clear hN hz hR hO hOn
      have HQ1 := hidH (show Calls Try.prog 38 #[.pointer (some ⟨w.heap.size + 1, 0, none⟩), .slice va zs.length vc] w8.drew (fun e wd => ∃ (ua : Option Addr) (uc : Nat) (ys : List Int), e = .returned (.slice ua ys.length uc) ∧ ys.length ≤ 61 ∧ AfterLV w w2.heap.size X Y Z (.slice ua ys.length uc) ys wd) from by
        refine (badTab_any (w.heap.size + 1) _ (w2.heap.size + 1) _ zs w8.drew (R8.out.onto (Below.refl _ _).drew) (by omega) (E_8.out.below (Below.refl _ _).drew) n1 (by omega) (by omega) (by show _ ≤ w8.heap.size; omega)).mono ?_
        rintro e wd ⟨u, ys, rfl, hrow, h61, hR, hO⟩
        obtain ⟨ua, uc, e, _⟩ := hrow.lies
        subst e
        have hBw : Below w.heap.size w8 wd := ⟨hO.os, hO.tape, hO.output, hO.size, fun q hq => hO.block q (by omega) (by omega)⟩
        refine ⟨ua, uc, ys, rfl, h61, afterLN ((T_8.out.below (Below.refl _ _).drew).ontoB hO (by omega) (by omega)) ((L_8.out.below (Below.refl _ _).drew).ontoB hO (Nat.lt_succ_self _) (by omega)) (B1.out.trans ((O8.out.below (Nat.le_succ _) (by omega)).trans hBw)), hidH ?_⟩
        exact (((hrow.lies.mono (by omega) (Nat.le_refl _)).setLow (Nat.lt_succ_self _) 0 _).setLow (Nat.lt_succ_self _) 1 _).setLow (Nat.lt_succ_self _) 2 _)
      have HQ0 := hidH (show Calls Try.prog 38 #[.pointer (some ⟨w.heap.size + 1, 0, none⟩), .slice va zs.length vc] w8 (fun e wd => ∃ (ua : Option Addr) (uc : Nat) (ys : List Int), e = .returned (.slice ua ys.length uc) ∧ ys.length ≤ 61 ∧ AfterLV w w2.heap.size X Y Z (.slice ua ys.length uc) ys wd) from by
        refine (badTab_any (w.heap.size + 1) _ (w2.heap.size + 1) _ zs w8 R8.out (by omega) E_8.out n1 (by omega) (by omega) (by show _ ≤ w8.heap.size; omega)).mono ?_
        rintro e wd ⟨u, ys, rfl, hrow, h61, hR, hO⟩
        obtain ⟨ua, uc, e, _⟩ := hrow.lies
        subst e
        have hBw : Below w.heap.size w8 wd := ⟨hO.os, hO.tape, hO.output, hO.size, fun q hq => hO.block q (by omega) (by omega)⟩
        refine ⟨ua, uc, ys, rfl, h61, afterLN (T_8.out.ontoB hO (by omega) (by omega)) (L_8.out.ontoB hO (Nat.lt_succ_self _) (by omega)) (B1.out.trans ((O8.out.below (Nat.le_succ _) (by omega)).trans hBw)), hidH ?_⟩
        exact (((hrow.lies.mono (by omega) (Nat.le_refl _)).setLow (Nat.lt_succ_self _) 0 _).setLow (Nat.lt_succ_self _) 1 _).setLow (Nat.lt_succ_self _) 2 _)
      have hlL := L_8.out.lt
      have hlT := T_8.out.lt
      have cT0 := T_8.out.cell0
      have cT1 := T_8.out.cell1
      have cT2 := T_8.out.cell2
      have tT := T_8.out.thaw
      have cL0 := L_8.out.cell0
      have cL1 := L_8.out.cell1
      have cL2 := L_8.out.cell2
      have tL := L_8.out.thaw
      go_wp2_with fail
      go_region_with ((go_at_call 38; first | ((with_reducible refine HQ1.out.mono ?_); rintro e wd ⟨ua, uc, ys, rfl, y61, ⟨e0, e1, e2, e3, g0, g1, g2, HG, HB⟩, HY⟩) | ((with_reducible refine HQ0.out.mono ?_); rintro e wd ⟨ua, uc, ys, rfl, y61, ⟨e0, e1, e2, e3, g0, g1, g2, HG, HB⟩, HY⟩)))
      all_goals (
        go_wp2_with fail
        refine bodyPost_ret (results_layV2 Try.results53 _ _ w.heap.size X Y Z _ _ rfl rfl rfl (by exact HG.out)) rfl ?_
        exact ⟨_, _, _, _, _, ys, rfl, by exact HY.out.mono (Nat.le_refl _) (by simp), y61, by first | exact HB.out | exact HB.out.drew⟩)
    · have b1 : (x == 0) = false := beq_eq_false_iff_ne.2 e1
      clear e1
      have HQ1 := hidH (show Calls Try.prog 38 #[.pointer (some ⟨w.heap.size + 1, 0, none⟩), .slice va zs.length vc] w7.drew (fun e wd => ∃ (ua : Option Addr) (uc : Nat) (ys : List Int), e = .returned (.slice ua ys.length uc) ∧ ys.length ≤ 61 ∧ AfterLV w w2.heap.size X Y Z (.slice ua ys.length uc) ys wd) from by
        refine (badTab_any (w.heap.size + 1) _ (w2.heap.size + 1) _ zs w7.drew (R7.out.onto (Below.refl _ _).drew) (by omega) (E_7.out.below (Below.refl _ _).drew) n1 (by omega) (by omega) (by show _ ≤ w7.heap.size; omega)).mono ?_
        rintro e wd ⟨u, ys, rfl, hrow, h61, hR, hO⟩
        obtain ⟨ua, uc, e, _⟩ := hrow.lies
        subst e
        have hBw : Below w.heap.size w7 wd := ⟨hO.os, hO.tape, hO.output, hO.size, fun q hq => hO.block q (by omega) (by omega)⟩
        refine ⟨ua, uc, ys, rfl, h61, afterLN ((T_7.out.below (Below.refl _ _).drew).ontoB hO (by omega) (by omega)) ((L_7.out.below (Below.refl _ _).drew).ontoB hO (Nat.lt_succ_self _) (by omega)) (B1.out.trans ((O7.out.below (Nat.le_succ _) (by omega)).trans hBw)), hidH ?_⟩
        exact (((hrow.lies.mono (by omega) (Nat.le_refl _)).setLow (Nat.lt_succ_self _) 0 _).setLow (Nat.lt_succ_self _) 1 _).setLow (Nat.lt_succ_self _) 2 _)
      have HQ0 := hidH (show Calls Try.prog 38 #[.pointer (some ⟨w.heap.size + 1, 0, none⟩), .slice va zs.length vc] w7 (fun e wd => ∃ (ua : Option Addr) (uc : Nat) (ys : List Int), e = .returned (.slice ua ys.length uc) ∧ ys.length ≤ 61 ∧ AfterLV w w2.heap.size X Y Z (.slice ua ys.length uc) ys wd) from by
        refine (badTab_any (w.heap.size + 1) _ (w2.heap.size + 1) _ zs w7 R7.out (by omega) E_7.out n1 (by omega) (by omega) (by show _ ≤ w7.heap.size; omega)).mono ?_
        rintro e wd ⟨u, ys, rfl, hrow, h61, hR, hO⟩
        obtain ⟨ua, uc, e, _⟩ := hrow.lies
        subst e
        have hBw : Below w.heap.size w7 wd := ⟨hO.os, hO.tape, hO.output, hO.size, fun q hq => hO.block q (by omega) (by omega)⟩
        refine ⟨ua, uc, ys, rfl, h61, afterLN (T_7.out.ontoB hO (by omega) (by omega)) (L_7.out.ontoB hO (Nat.lt_succ_self _) (by omega)) (B1.out.trans ((O7.out.below (Nat.le_succ _) (by omega)).trans hBw)), hidH ?_⟩
        exact (((hrow.lies.mono (by omega) (Nat.le_refl _)).setLow (Nat.lt_succ_self _) 0 _).setLow (Nat.lt_succ_self _) 1 _).setLow (Nat.lt_succ_self _) 2 _)
      have hlL := L_7.out.lt
      have hlT := T_7.out.lt
      have cT0 := T_7.out.cell0
      have cT1 := T_7.out.cell1
      have cT2 := T_7.out.cell2
      have tT := T_7.out.thaw
      have cL0 := L_7.out.cell0
      have cL1 := L_7.out.cell1
      have cL2 := L_7.out.cell2
      have tL := L_7.out.thaw
      go_wp2_with fail
      go_region_with ((go_at_call 38; first | ((with_reducible refine HQ1.out.mono ?_); rintro e wd ⟨ua, uc, ys, rfl, y61, ⟨e0, e1, e2, e3, g0, g1, g2, HG, HB⟩, HY⟩) | ((with_reducible refine HQ0.out.mono ?_); rintro e wd ⟨ua, uc, ys, rfl, y61, ⟨e0, e1, e2, e3, g0, g1, g2, HG, HB⟩, HY⟩)))
      all_goals (
        go_wp2_with fail
        refine bodyPost_ret (results_layV2 Try.results53 _ _ w.heap.size X Y Z _ _ rfl rfl rfl (by exact HG.out)) rfl ?_
        exact ⟨_, _, _, _, _, ys, rfl, by exact HY.out.mono (Nat.le_refl _) (by simp), y61, by first | exact HB.out | exact HB.out.drew⟩)
  · have cT0 := T_5.out.cell0
    have cT1 := T_5.out.cell1
    have cT2 := T_5.out.cell2
    have tT := T_5.out.thaw
    have cL0 := L_5.out.cell0
    have cL1 := L_5.out.cell1
    have cL2 := L_5.out.cell2
    have tL := L_5.out.thaw
    go_wp2_with fail
    clear cT0 cT1 cT2 tT
    clear cL0 cL1 cL2 tL
    refine (pick_any _ (w.heap.size + 1) _ _ R5.out (by omega)).mono ?_; rintro e w6 ⟨p, rfl, x0, x1, hR, hO⟩
    have R6 := hidH hR
    have O6 := hidH (O5.out.trans hO)
    have z6 := hO.size
    have T_6 := hidH (T_5.out.onto hO (by omega))
    have L_6 := hidH (L_5.out.onto hO (by omega))
    have E_6 := hidH ((row_onto E_5.out hO (by omega)).mono (Nat.le_refl _) hO.size)
    clear E_5
    clear x0 x1 hR hO
    have cT0 := T_6.out.cell0
    have cT1 := T_6.out.cell1
    have cT2 := T_6.out.cell2
    have tT := T_6.out.thaw
    have cL0 := L_6.out.cell0
    have cL1 := L_6.out.cell1
    have cL2 := L_6.out.cell2
    have tL := L_6.out.thaw
    go_wp2_with fail
    clear cT0 cT1 cT2 tT
    clear cL0 cL1 cL2 tL
    refine (pick_any 12 (w.heap.size + 1) _ _ R6.out (by omega)).mono ?_; rintro e w7 ⟨x, rfl, x0, x1, hR, hO⟩
    have R7 := hidH hR
    have O7 := hidH (O6.out.trans hO)
    have z7 := hO.size
    have T_7 := hidH (T_6.out.onto hO (by omega))
    have L_7 := hidH (L_6.out.onto hO (by omega))
    have E_7 := hidH ((row_onto E_6.out hO (by omega)).mono (Nat.le_refl _) hO.size)
    clear E_6
    clear x0 x1 hR hO
    by_cases e1 : x = 0
    · have b1 : (x == 0) = true := beq_iff_eq.2 e1
      clear e1
      have cT0 := T_7.out.cell0
      have cT1 := T_7.out.cell1
      have cT2 := T_7.out.cell2
      have tT := T_7.out.thaw
      have cL0 := L_7.out.cell0
      have cL1 := L_7.out.cell1
      have cL2 := L_7.out.cell2
      have tL := L_7.out.thaw
      go_wp2_with fail
      clear cT0 cT1 cT2 tT
      clear cL0 cL1 cL2 tL
      have hN := num_any w7.heap.size 0 plNums (w.heap.size + 1) _ (w7.alloc (.cells (intC plNums) 3)) (R7.out.onto ((Below.refl _ _).alloc (Nat.le_refl _) _)) (by omega) (by decide) (by decide) (ints_new _ _ _ _ R7.out.lt)
      refine hN.mono ?_
      rintro e w8 ⟨p2, hz, rfl, hR, hO⟩
      have hOn := ((Onto.refl (w.heap.size + 1) w7).alloc (.cells (intC plNums) 3)).trans hO
      have R8 := hidH hR
      have O8 := hidH (O7.out.trans hOn)
      have z8 := hOn.size
      have T_8 := hidH (T_7.out.onto hOn (by omega))
      have L_8 := hidH (L_7.out.onto hOn (by omega))
      have E_8 := hidH ((row_onto E_7.out hOn (by omega)).mono (Nat.le_refl _) hOn.size)
      clear E_7
      clear hN hz hR hO hOn
      have HQ1 := hidH (show Calls Try.prog 38 #[.pointer (some ⟨w.heap.size + 1, 0, none⟩), .slice va zs.length vc] w8.drew (fun e wd => ∃ (ua : Option Addr) (uc : Nat) (ys : List Int), e = .returned (.slice ua ys.length uc) ∧ ys.length ≤ 61 ∧ AfterLV w w2.heap.size X Y Z (.slice ua ys.length uc) ys wd) from by
        refine (badTab_any (w.heap.size + 1) _ (w2.heap.size + 1) _ zs w8.drew (R8.out.onto (Below.refl _ _).drew) (by omega) (E_8.out.below (Below.refl _ _).drew) n1 (by omega) (by omega) (by show _ ≤ w8.heap.size; omega)).mono ?_
        rintro e wd ⟨u, ys, rfl, hrow, h61, hR, hO⟩
        obtain ⟨ua, uc, e, _⟩ := hrow.lies
        subst e
        have hBw : Below w.heap.size w8 wd := ⟨hO.os, hO.tape, hO.output, hO.size, fun q hq => hO.block q (by omega) (by omega)⟩
        refine ⟨ua, uc, ys, rfl, h61, afterLN ((T_8.out.below (Below.refl _ _).drew).ontoB hO (by omega) (by omega)) ((L_8.out.below (Below.refl _ _).drew).ontoB hO (Nat.lt_succ_self _) (by omega)) (B1.out.trans ((O8.out.below (Nat.le_succ _) (by omega)).trans hBw)), hidH ?_⟩
        exact (((hrow.lies.mono (by omega) (Nat.le_refl _)).setLow (Nat.lt_succ_self _) 0 _).setLow (Nat.lt_succ_self _) 1 _).setLow (Nat.lt_succ_self _) 2 _)
      have HQ0 := hidH (show Calls Try.prog 38 #[.pointer (some ⟨w.heap.size + 1, 0, none⟩), .slice va zs.length vc] w8 (fun e wd => ∃ (ua : Option Addr) (uc : Nat) (ys : List Int), e = .returned (.slice ua ys.length uc) ∧ ys.length ≤ 61 ∧ AfterLV w w2.heap.size X Y Z (.slice ua ys.length uc) ys wd) from by
        refine (badTab_any (w.heap.size + 1) _ (w2.heap.size + 1) _ zs w8 R8.out (by omega) E_8.out n1 (by omega) (by omega) (by show _ ≤ w8.heap.size; omega)).mono ?_
        rintro e wd ⟨u, ys, rfl, hrow, h61, hR, hO⟩
        obtain ⟨ua, uc, e, _⟩ := hrow.lies
        subst e
        have hBw : Below w.heap.size w8 wd := ⟨hO.os, hO.tape, hO.output, hO.size, fun q hq => hO.block q (by omega) (by omega)⟩
        refine ⟨ua, uc, ys, rfl, h61, afterLN (T_8.out.ontoB hO (by omega) (by omega)) (L_8.out.ontoB hO (Nat.lt_succ_self _) (by omega)) (B1.out.trans ((O8.out.below (Nat.le_succ _) (by omega)).trans hBw)), hidH ?_⟩
        exact (((hrow.lies.mono (by omega) (Nat.le_refl _)).setLow (Nat.lt_succ_self _) 0 _).setLow (Nat.lt_succ_self _) 1 _).setLow (Nat.lt_succ_self _) 2 _)
      have hlL := L_8.out.lt
      have hlT := T_8.out.lt
      have cT0 := T_8.out.cell0
      have cT1 := T_8.out.cell1
      have cT2 := T_8.out.cell2
      have tT := T_8.out.thaw
      have cL0 := L_8.out.cell0
      have cL1 := L_8.out.cell1
      have cL2 := L_8.out.cell2
      have tL := L_8.out.thaw
      go_wp2_with fail
      go_region_with ((go_at_call 38; first | ((with_reducible refine HQ1.out.mono ?_); rintro e wd ⟨ua, uc, ys, rfl, y61, ⟨e0, e1, e2, e3, g0, g1, g2, HG, HB⟩, HY⟩) | ((with_reducible refine HQ0.out.mono ?_); rintro e wd ⟨ua, uc, ys, rfl, y61, ⟨e0, e1, e2, e3, g0, g1, g2, HG, HB⟩, HY⟩)))
      all_goals (
        go_wp2_with fail
        refine bodyPost_ret (results_layV2 Try.results53 _ _ w.heap.size X Y Z _ _ rfl rfl rfl (by exact HG.out)) rfl ?_
        exact ⟨_, _, _, _, _, ys, rfl, by exact HY.out.mono (Nat.le_refl _) (by simp), y61, by first | exact HB.out | exact HB.out.drew⟩)
    · have b1 : (x == 0) = false := beq_eq_false_iff_ne.2 e1
      clear e1
      have HQ1 := hidH (show Calls Try.prog 38 #[.pointer (some ⟨w.heap.size + 1, 0, none⟩), .slice va zs.length vc] w7.drew (fun e wd => ∃ (ua : Option Addr) (uc : Nat) (ys : List Int), e = .returned (.slice ua ys.length uc) ∧ ys.length ≤ 61 ∧ AfterLV w w2.heap.size X Y Z (.slice ua ys.length uc) ys wd) from by
        refine (badTab_any (w.heap.size + 1) _ (w2.heap.size + 1) _ zs w7.drew (R7.out.onto (Below.refl _ _).drew) (by omega) (E_7.out.below (Below.refl _ _).drew) n1 (by omega) (by omega) (by show _ ≤ w7.heap.size; omega)).mono ?_
        rintro e wd ⟨u, ys, rfl, hrow, h61, hR, hO⟩
        obtain ⟨ua, uc, e, _⟩ := hrow.lies
        subst e
        have hBw : Below w.heap.size w7 wd := ⟨hO.os, hO.tape, hO.output, hO.size, fun q hq => hO.block q (by omega) (by omega)⟩
        refine ⟨ua, uc, ys, rfl, h61, afterLN ((T_7.out.below (Below.refl _ _).drew).ontoB hO (by omega) (by omega)) ((L_7.out.below (Below.refl _ _).drew).ontoB hO (Nat.lt_succ_self _) (by omega)) (B1.out.trans ((O7.out.below (Nat.le_succ _) (by omega)).trans hBw)), hidH ?_⟩
        exact (((hrow.lies.mono (by omega) (Nat.le_refl _)).setLow (Nat.lt_succ_self _) 0 _).setLow (Nat.lt_succ_self _) 1 _).setLow (Nat.lt_succ_self _) 2 _)
      have HQ0 := hidH (show Calls Try.prog 38 #[.pointer (some ⟨w.heap.size + 1, 0, none⟩), .slice va zs.length vc] w7 (fun e wd => ∃ (ua : Option Addr) (uc : Nat) (ys : List Int), e = .returned (.slice ua ys.length uc) ∧ ys.length ≤ 61 ∧ AfterLV w w2.heap.size X Y Z (.slice ua ys.length uc) ys wd) from by
        refine (badTab_any (w.heap.size + 1) _ (w2.heap.size + 1) _ zs w7 R7.out (by omega) E_7.out n1 (by omega) (by omega) (by show _ ≤ w7.heap.size; omega)).mono ?_
        rintro e wd ⟨u, ys, rfl, hrow, h61, hR, hO⟩
        obtain ⟨ua, uc, e, _⟩ := hrow.lies
        subst e
        have hBw : Below w.heap.size w7 wd := ⟨hO.os, hO.tape, hO.output, hO.size, fun q hq => hO.block q (by omega) (by omega)⟩
        refine ⟨ua, uc, ys, rfl, h61, afterLN (T_7.out.ontoB hO (by omega) (by omega)) (L_7.out.ontoB hO (Nat.lt_succ_self _) (by omega)) (B1.out.trans ((O7.out.below (Nat.le_succ _) (by omega)).trans hBw)), hidH ?_⟩
        exact (((hrow.lies.mono (by omega) (Nat.le_refl _)).setLow (Nat.lt_succ_self _) 0 _).setLow (Nat.lt_succ_self _) 1 _).setLow (Nat.lt_succ_self _) 2 _)
      have hlL := L_7.out.lt
      have hlT := T_7.out.lt
      have cT0 := T_7.out.cell0
      have cT1 := T_7.out.cell1
      have cT2 := T_7.out.cell2
      have tT := T_7.out.thaw
      have cL0 := L_7.out.cell0
      have cL1 := L_7.out.cell1
      have cL2 := L_7.out.cell2
      have tL := L_7.out.thaw
      go_wp2_with fail
      go_region_with ((go_at_call 38; first | ((with_reducible refine HQ1.out.mono ?_); rintro e wd ⟨ua, uc, ys, rfl, y61, ⟨e0, e1, e2, e3, g0, g1, g2, HG, HB⟩, HY⟩) | ((with_reducible refine HQ0.out.mono ?_); rintro e wd ⟨ua, uc, ys, rfl, y61, ⟨e0, e1, e2, e3, g0, g1, g2, HG, HB⟩, HY⟩)))
      all_goals (
        go_wp2_with fail
        refine bodyPost_ret (results_layV2 Try.results53 _ _ w.heap.size X Y Z _ _ rfl rfl rfl (by exact HG.out)) rfl ?_
        exact ⟨_, _, _, _, _, ys, rfl, by exact HY.out.mono (Nat.le_refl _) (by simp), y61, by first | exact HB.out | exact HB.out.drew⟩)
end Go.Proofs.Ytnndeiiolnefkaa
