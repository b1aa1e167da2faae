/-
  The program's TurnWheels, WarnedWheels and AddColumns at two columns and at no such. Condition: texts of at most 2 to the power of 63, minus 1, bytes.
-/
import Derived.Test.YtffmhcahiabicaaDoorRowH
namespace Go.Proofs.YtffmhcahiabicaaDoor
set_option maxRecDepth 4000
open Go.RowKit
theorem text_row (b n : Nat) (ds : List Int) (hl : ds.length = n) (hn : n ≤ 12) (hd : digs ds) (w : World) (h : RowAt w b n (pad ds)) : Calls Tryd.prog 126 #[.pointer (some ⟨b, 0, none⟩)] w fun e w' => e = .returned (.string ⟨(txt ds).toArray⟩) ∧ Below w.heap.size w w' :=
  text_any b n ds hl hn hd w h.width (fun k d hk => h.digit k d (by rw [pad_at ds k ((List.getElem?_eq_some_iff.1 hk).1), hk])) h.lt
/-- Two new rows. -/
theorem new_one (w : World) : RowAt ((w.alloc (.cells (rowC 0 (pad [])) 124)).alloc (.cells (rowC 0 (pad [])) 124)) w.heap.size 0 (pad []) := (RowAt.fresh w 0 (pad [])).alloc _
theorem new_two (w : World) : RowAt ((w.alloc (.cells (rowC 0 (pad [])) 124)).alloc (.cells (rowC 0 (pad [])) 124)) (w.heap.size + 1) 0 (pad []) := by
  have h := RowAt.fresh (w.alloc (.cells (rowC 0 (pad [])) 124)) 0 (pad [])
  have e : (w.alloc (.cells (rowC 0 (pad [])) 124)).heap.size = w.heap.size + 1 := by simp
  rw [e] at h
  exact h
theorem new_two' (w : World) (cs : Array Value) : RowAt (((w.alloc (.cells (rowC 0 (pad [])) 124)).alloc (.cells (rowC 0 (pad [])) 124)).setRow w.heap.size cs) (w.heap.size + 1) 0 (pad []) := RowAt.setRowOther (new_two w) _ _ (by omega)
/-- The world with two new rows. -/
def two (w : World) (n : Int) (A B : List Int) : World := ((((w.alloc (.cells (rowC 0 (pad [])) 124)).alloc (.cells (rowC 0 (pad [])) 124)).setRow w.heap.size (rowC n A)).setRow (w.heap.size + 1) (rowC n B))
theorem two_a (w : World) (n : Int) (A B : List Int) : RowAt (two w n A B) w.heap.size n A := RowAt.setRowOther (RowAt.setRow (new_one w) n A) _ _ (by omega)
theorem two_b (w : World) (n : Int) (A B : List Int) : RowAt (two w n A B) (w.heap.size + 1) n B := RowAt.setRow (new_two' w _) n B
theorem two_below (w : World) (n : Int) (A B : List Int) : Below w.heap.size w (two w n A B) :=
  Below.setRow2 (Below.setRow2 (((Below.refl _ _).alloc (Nat.le_refl _) _).alloc (by simp) _) _ _ (Nat.le_refl _)) _ _ (by omega)
theorem two_size (w : World) (n : Int) (A B : List Int) : (two w n A B).heap.size = w.heap.size + 2 := by simp [two]
/-- A pair of columns, with what follows. -/
theorem pair_facts (a b : ByteArray) (h : pair a b = true) : digs (dgS a) ∧ digs (dgS b) ∧ (dgS a).length = a.size ∧ (dgS b).length = a.size ∧ 1 ≤ a.size ∧ a.size ≤ 12 ∧ (turnD (dgS a) (dgS b)).length = a.size ∧ (passD (dgS a) (dgS b)).length = a.size := by
  obtain ⟨ha, hb, hab⟩ := (pair_iff a b).1 h
  have ⟨da, la⟩ := dgS_facts a ha
  have ⟨db, lb⟩ := dgS_facts b hb
  have ⟨_, l1, l2⟩ := (ok_iff a).1 ha
  exact ⟨da, db, la, by omega, l1, l2, by rw [turnD_length _ _ (by omega), la], by rw [passD_length _ _ (by omega), la]⟩
variable (a b : ByteArray) (w : World) (hsa : a.size ≤ 9223372036854775807) (hsb : b.size ≤ 9223372036854775807)
include hsa hsb
theorem turned2_yes (h : pair a b = true) : Calls Tryd.prog 149 #[.string a, .string b] w fun e w' => e = .returned (.tuple #[.agg (rowC a.size (pad (turnD (dgS a) (dgS b)))), .agg (rowC a.size (pad (passD (dgS a) (dgS b)))), .bool true]) ∧ Below w.heap.size w w' := by
  obtain ⟨ha, hb, hab⟩ := (pair_iff a b).1 h
  exact turned_yes a b ha hb hab w hsa hsb
theorem turned2_no (h : pair a b = false) : Calls Tryd.prog 149 #[.string a, .string b] w fun e w' => e = .returned (.tuple #[.agg (rowC 0 (pad [])), .agg (rowC 0 (pad [])), .bool false]) ∧ Below w.heap.size w w' := turned_no a b h w hsa hsb
set_option maxHeartbeats 1600000 in
theorem addC_no (h : pair a b = false) : Calls Tryd.prog 135 #[.string a, .string b] w (fun e w' => e = .returned (.tuple #[.string ⟨#[]⟩, .bool false]) ∧ Below w.heap.size w w') := by
  have V1 := hidH fun w => turned2_no a b w hsa hsb h
  have SZ := hidH (row_size 0 (pad []) (by decide))
  have OZ := hidH (row_one 0 (pad []))
  clear h
  go_enter Tryd.func135, Tryd.ntmps135
  go_wp2_with fail
  refine (V1.out _).mono ?_; rintro e w1 ⟨rfl, hb1⟩
  have N1 := hidH (new_one w1)
  have N2 := hidH (new_two' w1)
  have HB := hidH hb1
  have B2 := hidH (two_below w1 0 (pad []) (pad []))
  clear hb1
  go_wp2_with (first | (refine wpList_store_row rfl 124 _ _ rfl w1.heap.size (rowC 0 (pad [])) rfl rfl 124 _ N1.out SZ.out rfl OZ.out ?_) | (refine wpList_store_row rfl 124 _ _ rfl (w1.heap.size + 1) (rowC 0 (pad [])) rfl rfl 124 _ (N2.out _) SZ.out rfl OZ.out ?_))
  go_ret2
  exact ⟨rfl, HB.out.trans (B2.out.mono HB.out.size)⟩
set_option maxHeartbeats 1600000 in
theorem addC_yes (h : pair a b = true) : Calls Tryd.prog 135 #[.string a, .string b] w (fun e w' => e = .returned (.tuple #[.string ⟨(txt (aheadD 0 (turnD (dgS a) (dgS b)) (passD (dgS a) (dgS b)))).toArray⟩, .bool true]) ∧ Below w.heap.size w w') := by
  have ⟨da, db, la, lb, l1, l12, lt, lp⟩ := pair_facts a b h
  have LT := hidH lt
  have LP := hidH lp
  have DT := hidH (turnD_digs (dgS a) (dgS b))
  have FP := hidH (passD_flags _ _ da db)
  have LL := hidH (show (dgS a).length = (dgS b).length by omega)
  have V1 := hidH fun w => turned2_yes a b w hsa hsb h
  have lT : (pad (turnD (dgS a) (dgS b))).length = 12 := pad_length _ (by omega)
  have lP : (pad (passD (dgS a) (dgS b))).length = 12 := pad_length _ (by omega)
  have S1 := hidH (row_size (a.size : Int) _ lT)
  have E1 := hidH (zero_size (a.size : Int) _ lT)
  have O1 := hidH (row_one (a.size : Int) (pad (turnD (dgS a) (dgS b))))
  have S2 := hidH (row_size (a.size : Int) _ lP)
  have E2 := hidH (zero_size (a.size : Int) _ lP)
  have O2 := hidH (row_one (a.size : Int) (pad (passD (dgS a) (dgS b))))
  clear h lT lP
  go_enter Tryd.func135, Tryd.ntmps135
  go_wp2_with fail
  refine (V1.out _).mono ?_; rintro e w1 ⟨rfl, hb1⟩
  have N1 := hidH (new_one w1)
  have N2 := hidH (new_two' w1)
  have HB := hidH hb1
  have TB := hidH (two_below w1 a.size (pad (turnD (dgS a) (dgS b))) (pad (passD (dgS a) (dgS b))))
  have TS := hidH (two_size w1 a.size (pad (turnD (dgS a) (dgS b))) (pad (passD (dgS a) (dgS b))))
  have RA := hidH (two_a w1 a.size (pad (turnD (dgS a) (dgS b))) (pad (passD (dgS a) (dgS b))))
  have RB := hidH (two_b w1 a.size (pad (turnD (dgS a) (dgS b))) (pad (passD (dgS a) (dgS b))))
  clear hb1
  go_wp2_with (first | (refine wpList_store_row rfl 124 _ _ rfl w1.heap.size _ rfl rfl 124 _ N1.out S1.out E1.out O1.out ?_) | (refine wpList_store_row rfl 124 _ _ rfl (w1.heap.size + 1) _ rfl rfl 124 _ (N2.out _) S2.out E2.out O2.out ?_) | (refine wpList_load_row rfl 124 _ rfl (w1.heap.size + 1) rfl 124 _ (0, 0) _ RB.out Tryd.underlying124 rfl S2.out ?_))
  refine (ahead_any w1.heap.size a.size (turnD (dgS a) (dgS b)) (passD (dgS a) (dgS b)) l12 LT.out LP.out DT.out FP.out _ RA.out).mono ?_
  rintro e w2 ⟨rfl, hr2, ho2⟩
  have R2 := hidH hr2
  have O3 := hidH (Onto.below ho2 (Nat.le_refl _) (by rw [TS.out]; omega))
  clear hr2 ho2
  go_wp2_with fail
  refine (text_row w1.heap.size a.size (aheadD 0 (turnD (dgS a) (dgS b)) (passD (dgS a) (dgS b))) (by rw [aheadD_length _ _ _ (by rw [LT.out, LP.out]), LT.out]) l12 (aheadD_digs _ _ _) _ R2.out).mono ?_
  rintro e w3 ⟨rfl, hb3⟩
  have H3 := hidH hb3
  clear hb3
  go_wp2
  go_ret2
  exact ⟨rfl, HB.out.trans ((TB.out.trans (O3.out.trans (H3.out.mono (Nat.le_trans TB.out.size O3.out.size)))).mono HB.out.size)⟩
end Go.Proofs.YtffmhcahiabicaaDoor
