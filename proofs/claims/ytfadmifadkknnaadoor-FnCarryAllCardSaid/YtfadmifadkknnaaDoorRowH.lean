/-
  A column and marks of its wheels read into rows of wheels. Condition: texts of at most 2 to the power of 63, minus 1, bytes.
-/
import Derived.Test.YtfadmifadkknnaaDoorRowG
namespace Go.Proofs.YtfadmifadkknnaaDoor
open Go.RowKit
/-- A text of marks. -/
def marks (m : ByteArray) : Bool := m.data.toList.all isMark
/-- A column and marks of its wheels. -/
def flagged (c m : ByteArray) : Bool := ok c && decide (m.size = c.size) && marks m
theorem flagged_iff (c m : ByteArray) : flagged c m = true ↔ ok c = true ∧ m.size = c.size ∧ marks m = true := by
  unfold flagged
  rw [Bool.and_eq_true, Bool.and_eq_true, decide_eq_true_eq, and_assoc]
theorem marks_iff (m : ByteArray) : marks m = true ↔ ∀ c ∈ m.data.toList, (c.toNat : Int) = 48 ∨ (c.toNat : Int) = 49 := by
  unfold marks
  rw [List.all_eq_true]
  constructor
  · intro h c hc
    have := h c hc
    simp only [isMark, Bool.or_eq_true, beq_iff_eq, ← UInt8.toNat_inj] at this
    simp at this
    omega
  · intro h c hc
    have := h c hc
    simp only [isMark, Bool.or_eq_true, beq_iff_eq, ← UInt8.toNat_inj]
    simp
    omega
theorem flagged_facts (c m : ByteArray) (h : flagged c m = true) : ok c = true ∧ ok m = true ∧ m.size = c.size ∧ flags (dgS m) := by
  obtain ⟨h1, h2, h3⟩ := (flagged_iff c m).1 h
  have hm := (marks_iff m).1 h3
  have ⟨_, l1, l2⟩ := (ok_iff c).1 h1
  refine ⟨h1, (ok_iff m).2 ⟨fun x hx => by have := hm x hx; omega, by omega, by omega⟩, h2, ?_⟩
  intro d hd
  simp only [dgS, dg, List.mem_map, List.mem_reverse] at hd
  obtain ⟨x, hx, rfl⟩ := hd
  have := hm x hx
  omega
set_option maxHeartbeats 4000000 in
set_option maxRecDepth 100000 in
theorem warned_no (a b : ByteArray) (h : flagged a b = false) (w : World) (hsa : a.size ≤ 9223372036854775807) (hsb : b.size ≤ 9223372036854775807) :
    Calls Tryd.prog 36 #[.string a, .string b] w fun e w' => e = .returned (rows2 0 (pad []) (pad []) false) ∧ Below w.heap.size w w' := by
  have z1 : ∀ w : World, RowAt ((w.alloc (.cells (rowC 0 (pad [])) 37)).alloc (.cells (rowC 0 (pad [])) 37)) w.heap.size 0 (pad []) := fun w => (RowAt.fresh w 0 (pad [])).alloc _
  have z2 : ∀ w : World, RowAt ((w.alloc (.cells (rowC 0 (pad [])) 37)).alloc (.cells (rowC 0 (pad [])) 37)) (w.heap.size + 1) 0 (pad []) := fun w => by
    have h := RowAt.fresh (w.alloc (.cells (rowC 0 (pad [])) 37)) 0 (pad [])
    have e : (w.alloc (.cells (rowC 0 (pad [])) 37)).heap.size = w.heap.size + 1 := by simp
    rw [e] at h
    exact h
  have SZ := hidH (row_size 0 (pad []) (by decide))
  have OZ := hidH (row_one 0 (pad []))
  cases ha : ok a
  · have V1 := hidH fun w => h_colNot a hsa ha w
    clear h ha
    have Z1 := hidH (z1 w)
    have Z2 := hidH (z2 w)
    clear z1 z2
    go_enter Tryd.func36, Tryd.ntmps36
    go_wp2_with fail
    refine (V1.out _).mono ?_; rintro e w1 ⟨rfl, hb1⟩
    rw [← rowC_start] at hb1
    have y1 : RowAt w1 w.heap.size 0 (pad []) := Z1.out.below hb1
    have y2 : RowAt w1 (w.heap.size + 1) 0 (pad []) := Z2.out.below hb1
    have ⟨x1, x2⟩ := zeros_twice w1 w.heap.size (w.heap.size + 1) (by omega) y1 y2
    have BW : Hid (Below w.heap.size w w1) := (((Below.refl _ _).alloc (Nat.le_refl _) _).alloc (by simp) _).trans (hb1.mono (by simp; omega))
    have X1 := hidH x1
    have X2 := hidH x2
    have Y1 := hidH y1
    have Y2 := hidH (RowAt.setRowOther y2 w.heap.size (rowC 0 (pad [])) (by omega))
    clear y1 y2 x1 x2 hb1
    go_wp2_with (first | (refine wpList_store_row rfl 37 _ _ rfl w.heap.size (rowC 0 (pad [])) rfl rfl 37 _ Y1.out SZ.out rfl OZ.out ?_) | (refine wpList_store_row rfl 37 _ _ rfl (w.heap.size + 1) (rowC 0 (pad [])) rfl rfl 37 _ Y2.out SZ.out rfl OZ.out ?_))
    refine bodyPost_ret (v := rows2 0 (pad []) (pad []) false) ?_ rfl ⟨rfl, Below.setRow2 (Below.setRow2 BW.out _ _ (Nat.le_refl _)) _ _ (by omega)⟩
    exact no_rows Tryd.results36 rfl _ _ w.heap.size (w.heap.size + 1) rfl rfl rfl X1.out X2.out
  · by_cases hs : b.size = a.size
    · have V1 := hidH fun w => h_colValid a hsa ha w
      have hm : marks b = false := by
        rw [← Bool.not_eq_true]
        intro hm
        have := (flagged_iff a b).2 ⟨ha, hs, hm⟩
        rw [h] at this
        cases this
      have V2 := hidH fun w => trimM_any b hsb w
      rw [show b.data.toList.all isMark = false from hm] at V2
      have hne : ((b.size : Int) != (a.size : Int)) = false := by rw [hs]; simp
      clear h ha hm hs
      have Z1 := hidH (z1 w)
      have Z2 := hidH (z2 w)
      clear z1 z2
      go_enter Tryd.func36, Tryd.ntmps36
      go_wp2_with fail
      refine (V1.out _).mono ?_; rintro e w1 ⟨rfl, hb1⟩
      go_wp2_with fail
      refine (V2.out _).mono ?_; rintro e w2 ⟨t, rfl, ht, hb2⟩
      rw [← rowC_start] at hb1
      have y1 : RowAt w2 w.heap.size 0 (pad []) := (Z1.out.below hb1).below hb2
      have y2 : RowAt w2 (w.heap.size + 1) 0 (pad []) := (Z2.out.below hb1).below hb2
      have ⟨x1, x2⟩ := zeros_twice w2 w.heap.size (w.heap.size + 1) (by omega) y1 y2
      have BW : Hid (Below w.heap.size w w2) := ((((Below.refl _ _).alloc (Nat.le_refl _) _).alloc (by simp) _).trans (hb1.mono (by simp; omega))).trans (hb2.mono (by have := hb1.size; simp at this; omega))
      have X1 := hidH x1
      have X2 := hidH x2
      have Y1 := hidH y1
      have Y2 := hidH (RowAt.setRowOther y2 w.heap.size (rowC 0 (pad [])) (by omega))
      clear y1 y2 x1 x2 hb1 hb2
      go_wp2_with (first | (refine wpList_store_row rfl 37 _ _ rfl w.heap.size (rowC 0 (pad [])) rfl rfl 37 _ Y1.out SZ.out rfl OZ.out ?_) | (refine wpList_store_row rfl 37 _ _ rfl (w.heap.size + 1) (rowC 0 (pad [])) rfl rfl 37 _ Y2.out SZ.out rfl OZ.out ?_))
      refine bodyPost_ret (v := rows2 0 (pad []) (pad []) false) ?_ rfl ⟨rfl, Below.setRow2 (Below.setRow2 BW.out _ _ (Nat.le_refl _)) _ _ (by omega)⟩
      exact no_rows Tryd.results36 rfl _ _ w.heap.size (w.heap.size + 1) rfl rfl rfl X1.out X2.out
    · have V1 := hidH fun w => h_colValid a hsa ha w
      have hne : ((b.size : Int) != (a.size : Int)) = true := by
        rw [bne_iff_ne]
        omega
      clear h ha hs
      have Z1 := hidH (z1 w)
      have Z2 := hidH (z2 w)
      clear z1 z2
      go_enter Tryd.func36, Tryd.ntmps36
      go_wp2_with fail
      refine (V1.out _).mono ?_; rintro e w1 ⟨rfl, hb1⟩
      rw [← rowC_start] at hb1
      have y1 : RowAt w1 w.heap.size 0 (pad []) := Z1.out.below hb1
      have y2 : RowAt w1 (w.heap.size + 1) 0 (pad []) := Z2.out.below hb1
      have ⟨x1, x2⟩ := zeros_twice w1 w.heap.size (w.heap.size + 1) (by omega) y1 y2
      have BW : Hid (Below w.heap.size w w1) := (((Below.refl _ _).alloc (Nat.le_refl _) _).alloc (by simp) _).trans (hb1.mono (by simp; omega))
      have X1 := hidH x1
      have X2 := hidH x2
      have Y1 := hidH y1
      have Y2 := hidH (RowAt.setRowOther y2 w.heap.size (rowC 0 (pad [])) (by omega))
      clear y1 y2 x1 x2 hb1
      go_wp2_with (first | (refine wpList_store_row rfl 37 _ _ rfl w.heap.size (rowC 0 (pad [])) rfl rfl 37 _ Y1.out SZ.out rfl OZ.out ?_) | (refine wpList_store_row rfl 37 _ _ rfl (w.heap.size + 1) (rowC 0 (pad [])) rfl rfl 37 _ Y2.out SZ.out rfl OZ.out ?_))
      refine bodyPost_ret (v := rows2 0 (pad []) (pad []) false) ?_ rfl ⟨rfl, Below.setRow2 (Below.setRow2 BW.out _ _ (Nat.le_refl _)) _ _ (by omega)⟩
      exact no_rows Tryd.results36 rfl _ _ w.heap.size (w.heap.size + 1) rfl rfl rfl X1.out X2.out
set_option maxHeartbeats 4000000 in
set_option maxRecDepth 100000 in
theorem warned_yes (a b : ByteArray) (h : flagged a b = true) (w : World) (hsa : a.size ≤ 9223372036854775807) (hsb : b.size ≤ 9223372036854775807) :
    Calls Tryd.prog 36 #[.string a, .string b] w fun e w' => e = .returned (rows2 a.size (pad (dgS a)) (pad (dgS b)) true) ∧ Below w.heap.size w w' := by
  have ⟨ha, hb, hab, _⟩ := flagged_facts a b h
  have hm : b.data.toList.all isMark = true := ((flagged_iff a b).1 h).2.2
  have V1 := hidH fun w => h_colValid a hsa ha w
  have V2 := hidH fun w => trimM_any b hsb w
  rw [hm] at V2
  have RA := hidH fun w => rowOf_any a ha w
  have RB := hidH fun w => rowOf_any b hb w
  rw [hab] at RB
  have hne : ((b.size : Int) != (a.size : Int)) = false := by rw [hab]; simp
  have ⟨_, la⟩ := dgS_facts a ha
  have ⟨_, lb⟩ := dgS_facts b hb
  have ⟨_, _, l12⟩ := (ok_iff a).1 ha
  have lA : (pad (dgS a)).length = 12 := pad_length _ (by omega)
  have lB : (pad (dgS b)).length = 12 := pad_length _ (by omega)
  have S1 := hidH (row_size (a.size : Int) _ lA)
  have E1 := hidH (zero_size (a.size : Int) _ lA)
  have N1 := hidH (row_one (a.size : Int) (pad (dgS a)))
  have S2 := hidH (row_size (a.size : Int) _ lB)
  have E2 := hidH (zero_size (a.size : Int) _ lB)
  have N2 := hidH (row_one (a.size : Int) (pad (dgS b)))
  clear h ha hb hab hm la lb l12 lA lB
  go_enter Tryd.func36, Tryd.ntmps36
  go_wp2_with fail
  refine (V1.out _).mono ?_; rintro e w1 ⟨rfl, hb1⟩
  go_wp2_with fail
  refine (V2.out _).mono ?_; rintro e w2 ⟨t, rfl, ht, hb2⟩
  rw [← rowC_start] at hb1
  have zA : RowAt w2 w.heap.size 0 (pad []) := RowAt.below (RowAt.below ((RowAt.fresh w 0 (pad [])).alloc _) hb1) hb2
  have zB : RowAt w2 (w.heap.size + 1) 0 (pad []) := by
    have h := RowAt.fresh (w.alloc (.cells (rowC 0 (pad [])) 37)) 0 (pad [])
    have e : (w.alloc (.cells (rowC 0 (pad [])) 37)).heap.size = w.heap.size + 1 := by simp
    rw [e] at h
    exact RowAt.below (RowAt.below h hb1) hb2
  have bW : Below w.heap.size w w2 := (((Below.refl _ _).alloc (Nat.le_refl _) _).alloc (by simp) _).trans ((hb1.mono (by simp; omega)).trans (hb2.mono (by have := hb1.size; simp at this; omega)))
  have sz2 : w.heap.size + 2 ≤ w2.heap.size := by have := hb1.size; have := hb2.size; simp at *; omega
  have ZA := hidH zA
  have ZB := hidH zB
  have BW := hidH bW
  clear hb1 hb2 zA zB bW
  go_wp2_with fail
  refine (RA.out _).mono ?_; rintro e w3 ⟨rfl, hb3⟩
  go_wp2_with fail
  refine (RB.out _).mono ?_; rintro e w4 ⟨rfl, hb4⟩
  have yA := (ZA.out.below hb3).below hb4
  have yB := (ZB.out.below hb3).below hb4
  have bV : Below w.heap.size w w4 := (BW.out.trans (hb3.mono (by omega))).trans (hb4.mono (by have := hb3.size; omega))
  have YA := hidH yA
  have YB := hidH (RowAt.setRowOther yB w.heap.size (rowC a.size (pad (dgS a))) (by omega))
  have FA : Hid (RowAt ((w4.setRow w.heap.size (rowC a.size (pad (dgS a)))).setRow (w.heap.size + 1) (rowC a.size (pad (dgS b)))) w.heap.size a.size (pad (dgS a))) := RowAt.setRowOther (RowAt.setRow yA _ _) _ _ (by omega)
  have FB : Hid (RowAt ((w4.setRow w.heap.size (rowC a.size (pad (dgS a)))).setRow (w.heap.size + 1) (rowC a.size (pad (dgS b)))) (w.heap.size + 1) a.size (pad (dgS b))) := RowAt.setRow YB.out _ _
  have FW := hidH (Below.setRow2 (Below.setRow2 bV w.heap.size (rowC a.size (pad (dgS a))) (Nat.le_refl _)) (w.heap.size + 1) (rowC a.size (pad (dgS b))) (by omega))
  clear hb3 hb4 yA yB bV ZA ZB BW
  go_wp2_with (first | (refine wpList_store_row rfl 37 _ _ rfl w.heap.size _ rfl rfl 37 _ YA.out S1.out E1.out N1.out ?_) | (refine wpList_store_row rfl 37 _ _ rfl (w.heap.size + 1) _ rfl rfl 37 _ YB.out S2.out E2.out N2.out ?_))
  refine bodyPost_ret (v := rows2 a.size (pad (dgS a)) (pad (dgS b)) true) ?_ rfl ⟨rfl, FW.out⟩
  exact results_rows Tryd.results36 _ _ w.heap.size (w.heap.size + 1) 37 _ _ (0, 0) _ _ rfl rfl rfl FA.out FB.out Tryd.underlying37 rfl S1.out S2.out
end Go.Proofs.YtfadmifadkknnaaDoor
