/-
  The draws of layouts. No conditions but that the bytes that came in can be read.
-/
import Derived.Test.YtcinhmfjnjecdaaRkA
import Derived.Test.YtcinhmfjnjecdaaPlcC
namespace Go.Proofs.Ytcinhmfjnjecdaa
set_option maxRecDepth 4000
open Go.RowKit
theorem LayAt.onto {w w' : World} {r b : Nat} {R A W : Int} (h : LayAt w b R A W) (ho : Onto r w w') (hr : b ≠ r) : LayAt w' b R A W := by
  have hl := h.lt
  unfold LayAt at *
  rw [ho.block b hl hr]; exact h
theorem LayAt.thaw {w : World} {b : Nat} {R A W : Int} (h : LayAt w b R A W) (k : Nat) : w.frozen? ⟨b, k, none⟩ = false := by
  unfold LayAt layC at h
  simp [World.frozen?, h]
theorem LayAt.set0 {w : World} {b : Nat} {R A W : Int} (h : LayAt w b R A W) (x : Int) : LayAt (w.setCell ⟨b, 0, none⟩ (.int .i64 x)) b x A W := by
  unfold LayAt layC at *
  simp [World.setCell, Array.getElem?_modify, h]
theorem LayAt.set1 {w : World} {b : Nat} {R A W : Int} (h : LayAt w b R A W) (x : Int) : LayAt (w.setCell ⟨b, 1, none⟩ (.int .i64 x)) b R x W := by
  unfold LayAt layC at *
  simp [World.setCell, Array.getElem?_modify, h]
theorem LayAt.set2 {w : World} {b : Nat} {R A W : Int} (h : LayAt w b R A W) (x : Int) : LayAt (w.setCell ⟨b, 2, none⟩ (.int .i64 x)) b R A x := by
  unfold LayAt layC at *
  simp [World.setCell, Array.getElem?_modify, h]
theorem LayAt.other {w : World} {b : Nat} {R A W : Int} (h : LayAt w b R A W) (c k : Nat) (v : Value) (hc : b ≠ c) : LayAt (w.setCell ⟨c, k, none⟩ v) b R A W := by
  unfold LayAt at *
  simp only [World.setCell, Array.getElem?_modify]
  rw [if_neg (fun e => hc e.symm)]
  simpa using h
theorem Onto.setNewP {r : Nat} {a b : World} (h : Onto r a b) (p : Addr) (hp : a.heap.size ≤ p.block) (v : Value) : Onto r a (b.setCell p v) :=
  ⟨h.os, h.tape, h.output, by simpa using h.size, fun k hk hr => by rw [heap_setCell_other _ _ _ _ (by omega)]; exact h.block k hk hr⟩
theorem Rd.setN {w : World} {r B b : Nat} (h : Rd w r B) (hb : r < b) (i : Nat) (v : Value) : Rd (w.setCell ⟨b, i, none⟩ v) r B := h.low ⟨rfl, rfl, rfl, by simp, fun k hk => heap_setCell_other _ _ _ _ (by show k ≠ b; omega)⟩
theorem layd_size (a b c : Value) : (Try.prog.info? 36).map (·.size) = some (#[a, b, c] : Array Value).size := by
  rw [show (#[a, b, c] : Array Value).size = 3 from rfl]
  kernel_rfl
def lyNums1 : List Int := [0, 20, 21, -1]
def lyNums2 : List Int := [0, 6, 7]
def lyNums3 : List Int := [0, 1, 12, 13]
/-- A drawn layout. -/
def LayR (r B : Nat) (w : World) (e : Ending) (w' : World) : Prop := ∃ R A W : Int, e = .returned (layV R A W) ∧ Rd w' r (B + 6) ∧ Onto r w w'
set_option maxHeartbeats 3200000 in
theorem layout6_any (r B : Nat) (w : World) (h : Rd w r B) (hB : B ≤ 800000) : Calls Try.prog 78 #[.pointer (some ⟨r, 0, none⟩)] w (LayR r B w) := by
  have hr0 := h.lt
  have R0 := hidH (h.onto ((Below.refl _ _).alloc (Nat.le_refl _) (.cells #[.int .i64 0, .int .i64 0, .int .i64 0] 36)))
  have O0 := hidH ((Onto.refl r w).alloc (.cells #[.int .i64 0, .int .i64 0, .int .i64 0] 36))
  have z0 : w.heap.size + 1 = (w.alloc (.cells #[.int .i64 0, .int .i64 0, .int .i64 0] 36)).heap.size := by simp
  have T_0 := hidH (LayAt.fresh w 0 0 0)
  clear h
  unfold layC at *
  go_enter Try.func78, Try.ntmps78
  have cT0 := T_0.out.cell0
  have cT1 := T_0.out.cell1
  have cT2 := T_0.out.cell2
  have tT := T_0.out.thaw
  go_wp2_with fail
  clear cT0 cT1 cT2 tT
  refine (pick_any 6 r _ _ R0.out (by omega)).mono ?_
  rintro e w1 ⟨x, rfl, x0, x1, hR, hO⟩
  have R1 := hidH hR
  have O1 := hidH (O0.out.trans hO)
  have z1 := hO.size
  have T_1 := hidH (T_0.out.onto hO (by omega))
  clear x0 x1 hR hO
  have cT0 := T_1.out.cell0
  have cT1 := T_1.out.cell1
  have cT2 := T_1.out.cell2
  have tT := T_1.out.thaw
  go_wp2_with fail
  clear cT0 cT1 cT2 tT
  refine (pick_any 4 r _ w1 R1.out (by omega)).mono ?_
  rintro e w2 ⟨y, rfl, y0, y1, hR, hO⟩
  have R2 := hidH hR
  have O2 := hidH (O1.out.trans hO)
  have z2 := hO.size
  have T_2 := hidH (T_1.out.onto hO (by omega))
  clear y0 y1 hR hO
  have cT0 := T_2.out.cell0
  have cT1 := T_2.out.cell1
  have cT2 := T_2.out.cell2
  have tT := T_2.out.thaw
  go_wp2_with fail
  clear cT0 cT1 cT2 tT
  refine (pick_any 3 r _ w2 R2.out (by omega)).mono ?_
  rintro e w3 ⟨z, rfl, q0, q1, hR, hO⟩
  have R3 := hidH hR
  have O3 := hidH (O2.out.trans hO)
  have z3 := hO.size
  have T_3 := hidH (T_2.out.onto hO (by omega))
  clear q0 q1 hR hO
  have cT0 := T_3.out.cell0
  have cT1 := T_3.out.cell1
  have cT2 := T_3.out.cell2
  have tT := T_3.out.thaw
  go_wp2_with fail
  clear cT0 cT1 cT2 tT
  generalize wrap64 (1 + x) = X at *
  generalize wrap64 (1 + y) = Y at *
  generalize wrap64 (5 + z) = Z at *
  have L_3 := hidH (LayAt.fresh w3 X Y Z)
  have T_4 := hidH (T_3.out.below (bMore (Below.refl _ _) (layC X Y Z)))
  have R4 := hidH (R3.out.onto (bMore (Below.refl _ _) (layC X Y Z)))
  have O4 := hidH (O3.out.alloc (layC X Y Z))
  have z4 : w3.heap.size + 1 = (w3.alloc (layC X Y Z)).heap.size := by simp
  have L_4 := L_3
  unfold layC at *
  clear L_3 T_3 R3 O3
  have cT0 := T_4.out.cell0
  have cT1 := T_4.out.cell1
  have cT2 := T_4.out.cell2
  have tT := T_4.out.thaw
  have cL0 := L_4.out.cell0
  have cL1 := L_4.out.cell1
  have cL2 := L_4.out.cell2
  have tL := L_4.out.thaw
  clear cT0 cT1 cT2 tT
  clear cL0 cL1 cL2 tL
  refine (pick_any 30 r _ _ R4.out (by omega)).mono ?_
  rintro e w5 ⟨c, rfl, c0, c1, hR, hO⟩
  have R5 := hidH hR
  have O5 := hidH (O4.out.trans hO)
  have z5 := hO.size
  have T_5 := hidH (T_4.out.onto hO (by omega))
  have L_5 := hidH (L_4.out.onto hO (by omega))
  clear c0 c1 hR hO
  by_cases e1 : c = 0
  · have b1 : (c == 0) = true := beq_iff_eq.2 e1
    clear e1
    have cT0 := T_5.out.cell0
    have cT1 := T_5.out.cell1
    have cT2 := T_5.out.cell2
    have tT := T_5.out.thaw
    have cL0 := L_5.out.cell0
    have cL1 := L_5.out.cell1
    have cL2 := L_5.out.cell2
    have tL := L_5.out.thaw
    go_wp2_with fail
    clear cT0 cT1 cT2 tT
    clear cL0 cL1 cL2 tL
    have hN := num_any w5.heap.size 0 lyNums1 r _ (w5.alloc (.cells (intC lyNums1) 3)) (R5.out.onto ((Below.refl _ _).alloc (Nat.le_refl _) _)) (by omega) (by decide) (by decide) (ints_new _ _ _ _ R5.out.lt)
    refine hN.mono ?_
    rintro e w6 ⟨t, hz, rfl, hR, hO⟩
    have HOn := hidH ((((Onto.refl r w5).alloc (.cells (intC lyNums1) 3))).trans hO)
    have R6 := hidH hR
    have O6 := hidH (O5.out.trans HOn.out)
    have z6 := HOn.out.size
    have T_6 := hidH (T_5.out.onto HOn.out (by omega))
    have L_6 := hidH (L_5.out.onto HOn.out (by omega))
    clear hN hz hR hO HOn
    have ls := L_6.out.set0 t
    have hl0 := ls.cell0
    have hl1 := ls.cell1
    have hl2 := ls.cell2
    have tt := T_6.out.other w3.heap.size 0 (.int .i64 t) (by omega)
    have ht0 := tt.cell0
    have ht1 := tt.cell1
    have ht2 := tt.cell2
    have hft := tt.thaw
    have cL := L_6.out.cell0
    have hfL := L_6.out.thaw
    have HG := hidH ((((T_6.out.other w3.heap.size 0 (.int .i64 t) (by omega)).set0 t).set1 Y).set2 Z)
    have HR := hidH (((((R6.out.setN (b := w3.heap.size) (by omega) 0 (.int .i64 t)).setN (b := w.heap.size) (by omega) 0 (.int .i64 t)).setN (b := w.heap.size) (by omega) 1 (.int .i64 Y)).setN (b := w.heap.size) (by omega) 2 (.int .i64 Z)))
    have HO := hidH ((((O6.out.setNewP ⟨w3.heap.size, 0, none⟩ (by simp; omega) (.int .i64 t)).setNewP ⟨w.heap.size, 0, none⟩ (Nat.le_refl _) (.int .i64 t)).setNewP ⟨w.heap.size, 1, none⟩ (Nat.le_refl _) (.int .i64 Y)).setNewP ⟨w.heap.size, 2, none⟩ (Nat.le_refl _) (.int .i64 Z))
    clear ls tt
    go_wp2_with fail
    refine bodyPost_ret (results_cell_row Try.results78 _ _ w.heap.size 36 _ (0, 0) _ rfl HG.out Try.underlying36 rfl (layd_size _ _ _)) rfl ?_
    exact ⟨_, _, _, rfl, HR.out.more (by omega), HO.out⟩
  · have b1 : (c == 0) = false := beq_eq_false_iff_ne.2 e1
    clear e1
    by_cases e2 : c = 1
    · have b2 : (c == 1) = true := beq_iff_eq.2 e2
      clear e2
      have cT0 := T_5.out.cell0
      have cT1 := T_5.out.cell1
      have cT2 := T_5.out.cell2
      have tT := T_5.out.thaw
      have cL0 := L_5.out.cell0
      have cL1 := L_5.out.cell1
      have cL2 := L_5.out.cell2
      have tL := L_5.out.thaw
      go_wp2_with fail
      clear cT0 cT1 cT2 tT
      clear cL0 cL1 cL2 tL
      have hN := num_any w5.heap.size 0 lyNums2 r _ (w5.alloc (.cells (intC lyNums2) 3)) (R5.out.onto ((Below.refl _ _).alloc (Nat.le_refl _) _)) (by omega) (by decide) (by decide) (ints_new _ _ _ _ R5.out.lt)
      refine hN.mono ?_
      rintro e w6 ⟨t, hz, rfl, hR, hO⟩
      have HOn := hidH ((((Onto.refl r w5).alloc (.cells (intC lyNums2) 3))).trans hO)
      have R6 := hidH hR
      have O6 := hidH (O5.out.trans HOn.out)
      have z6 := HOn.out.size
      have T_6 := hidH (T_5.out.onto HOn.out (by omega))
      have L_6 := hidH (L_5.out.onto HOn.out (by omega))
      clear hN hz hR hO HOn
      have ls := L_6.out.set1 t
      have hl0 := ls.cell0
      have hl1 := ls.cell1
      have hl2 := ls.cell2
      have tt := T_6.out.other w3.heap.size 1 (.int .i64 t) (by omega)
      have ht0 := tt.cell0
      have ht1 := tt.cell1
      have ht2 := tt.cell2
      have hft := tt.thaw
      have cL := L_6.out.cell1
      have hfL := L_6.out.thaw
      have HG := hidH ((((T_6.out.other w3.heap.size 1 (.int .i64 t) (by omega)).set0 X).set1 t).set2 Z)
      have HR := hidH (((((R6.out.setN (b := w3.heap.size) (by omega) 1 (.int .i64 t)).setN (b := w.heap.size) (by omega) 0 (.int .i64 X)).setN (b := w.heap.size) (by omega) 1 (.int .i64 t)).setN (b := w.heap.size) (by omega) 2 (.int .i64 Z)))
      have HO := hidH ((((O6.out.setNewP ⟨w3.heap.size, 1, none⟩ (by simp; omega) (.int .i64 t)).setNewP ⟨w.heap.size, 0, none⟩ (Nat.le_refl _) (.int .i64 X)).setNewP ⟨w.heap.size, 1, none⟩ (Nat.le_refl _) (.int .i64 t)).setNewP ⟨w.heap.size, 2, none⟩ (Nat.le_refl _) (.int .i64 Z))
      clear ls tt
      go_wp2_with fail
      refine bodyPost_ret (results_cell_row Try.results78 _ _ w.heap.size 36 _ (0, 0) _ rfl HG.out Try.underlying36 rfl (layd_size _ _ _)) rfl ?_
      exact ⟨_, _, _, rfl, HR.out.more (by omega), HO.out⟩
    · have b2 : (c == 1) = false := beq_eq_false_iff_ne.2 e2
      clear e2
      by_cases e3 : c = 2
      · have b3 : (c == 2) = true := beq_iff_eq.2 e3
        clear e3
        have cT0 := T_5.out.cell0
        have cT1 := T_5.out.cell1
        have cT2 := T_5.out.cell2
        have tT := T_5.out.thaw
        have cL0 := L_5.out.cell0
        have cL1 := L_5.out.cell1
        have cL2 := L_5.out.cell2
        have tL := L_5.out.thaw
        go_wp2_with fail
        clear cT0 cT1 cT2 tT
        clear cL0 cL1 cL2 tL
        have hN := num_any w5.heap.size 0 lyNums3 r _ (w5.alloc (.cells (intC lyNums3) 3)) (R5.out.onto ((Below.refl _ _).alloc (Nat.le_refl _) _)) (by omega) (by decide) (by decide) (ints_new _ _ _ _ R5.out.lt)
        refine hN.mono ?_
        rintro e w6 ⟨t, hz, rfl, hR, hO⟩
        have HOn := hidH ((((Onto.refl r w5).alloc (.cells (intC lyNums3) 3))).trans hO)
        have R6 := hidH hR
        have O6 := hidH (O5.out.trans HOn.out)
        have z6 := HOn.out.size
        have T_6 := hidH (T_5.out.onto HOn.out (by omega))
        have L_6 := hidH (L_5.out.onto HOn.out (by omega))
        clear hN hz hR hO HOn
        have ls := L_6.out.set2 t
        have hl0 := ls.cell0
        have hl1 := ls.cell1
        have hl2 := ls.cell2
        have tt := T_6.out.other w3.heap.size 2 (.int .i64 t) (by omega)
        have ht0 := tt.cell0
        have ht1 := tt.cell1
        have ht2 := tt.cell2
        have hft := tt.thaw
        have cL := L_6.out.cell2
        have hfL := L_6.out.thaw
        have HG := hidH ((((T_6.out.other w3.heap.size 2 (.int .i64 t) (by omega)).set0 X).set1 Y).set2 t)
        have HR := hidH (((((R6.out.setN (b := w3.heap.size) (by omega) 2 (.int .i64 t)).setN (b := w.heap.size) (by omega) 0 (.int .i64 X)).setN (b := w.heap.size) (by omega) 1 (.int .i64 Y)).setN (b := w.heap.size) (by omega) 2 (.int .i64 t)))
        have HO := hidH ((((O6.out.setNewP ⟨w3.heap.size, 2, none⟩ (by simp; omega) (.int .i64 t)).setNewP ⟨w.heap.size, 0, none⟩ (Nat.le_refl _) (.int .i64 X)).setNewP ⟨w.heap.size, 1, none⟩ (Nat.le_refl _) (.int .i64 Y)).setNewP ⟨w.heap.size, 2, none⟩ (Nat.le_refl _) (.int .i64 t))
        clear ls tt
        go_wp2_with fail
        refine bodyPost_ret (results_cell_row Try.results78 _ _ w.heap.size 36 _ (0, 0) _ rfl HG.out Try.underlying36 rfl (layd_size _ _ _)) rfl ?_
        exact ⟨_, _, _, rfl, HR.out.more (by omega), HO.out⟩
      · have b3 : (c == 2) = false := beq_eq_false_iff_ne.2 e3
        clear e3
        have cT0 := T_5.out.cell0
        have cT1 := T_5.out.cell1
        have cT2 := T_5.out.cell2
        have tT := T_5.out.thaw
        have cL0 := L_5.out.cell0
        have cL1 := L_5.out.cell1
        have cL2 := L_5.out.cell2
        have tL := L_5.out.thaw
        have HG := hidH (((T_5.out.set0 X).set1 Y).set2 Z)
        have HR := hidH ((((R5.out.setN (b := w.heap.size) (by omega) 0 (.int .i64 X)).setN (b := w.heap.size) (by omega) 1 (.int .i64 Y)).setN (b := w.heap.size) (by omega) 2 (.int .i64 Z)))
        have HO := hidH (((O5.out.setNewP ⟨w.heap.size, 0, none⟩ (Nat.le_refl _) (.int .i64 X)).setNewP ⟨w.heap.size, 1, none⟩ (Nat.le_refl _) (.int .i64 Y)).setNewP ⟨w.heap.size, 2, none⟩ (Nat.le_refl _) (.int .i64 Z))
        go_wp2_with fail
        refine bodyPost_ret (results_cell_row Try.results78 _ _ w.heap.size 36 _ (0, 0) _ rfl HG.out Try.underlying36 rfl (layd_size _ _ _)) rfl ?_
        exact ⟨_, _, _, rfl, HR.out.more (by omega), HO.out⟩
end Go.Proofs.Ytcinhmfjnjecdaa
