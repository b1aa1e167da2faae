/-
  The program's CarryOnce, CarryAll and CarryAhead at a column with marks and at no such. Condition: texts of at most 2 to the power of 63, minus 1, bytes.
-/
import Derived.Test.YtfadmifadkknnaaDoorRowI
namespace Go.Proofs.YtfadmifadkknnaaDoor
open Go.RowKit
theorem flag_facts (a b : ByteArray) (h : flagged a b = true) : digs (dgS a) ∧ flags (dgS b) ∧ (dgS a).length = a.size ∧ (dgS b).length = a.size ∧ 1 ≤ a.size ∧ a.size ≤ 12 := by
  obtain ⟨ha, hb, hab, hf⟩ := flagged_facts a b h
  have ⟨da, la⟩ := dgS_facts a ha
  have ⟨_, lb⟩ := dgS_facts b hb
  have ⟨_, l1, l2⟩ := (ok_iff a).1 ha
  exact ⟨da, hf, la, by omega, l1, l2⟩
variable (a b : ByteArray) (w : World) (hsa : a.size ≤ 9223372036854775807) (hsb : b.size ≤ 9223372036854775807)
include hsa hsb
theorem warned2_yes (h : flagged a b = true) : Calls Tryd.prog 36 #[.string a, .string b] w fun e w' => e = .returned (.tuple #[.agg (rowC a.size (pad (dgS a))), .agg (rowC a.size (pad (dgS b))), .bool true]) ∧ Below w.heap.size w w' :=
  warned_yes a b h w hsa hsb
theorem warned2_no (h : flagged a b = false) : Calls Tryd.prog 36 #[.string a, .string b] w fun e w' => e = .returned (.tuple #[.agg (rowC 0 (pad [])), .agg (rowC 0 (pad [])), .bool false]) ∧ Below w.heap.size w w' := warned_no a b h w hsa hsb
set_option maxHeartbeats 1600000 in
theorem aheadC_no (h : flagged a b = false) : Calls Tryd.prog 16 #[.string a, .string b] w (fun e w' => e = .returned (.tuple #[.string ⟨#[]⟩, .bool false]) ∧ Below w.heap.size w w') := by
  have V1 := hidH fun w => warned2_no a b w hsa hsb h
  have SZ := hidH (row_size 0 (pad []) (by decide))
  have OZ := hidH (row_one 0 (pad []))
  clear h
  go_enter Tryd.func16, Tryd.ntmps16
  go_wp2_with fail
  refine (V1.out _).mono ?_; rintro e w1 ⟨rfl, hb1⟩
  have N1 := hidH (new_one w1)
  have N2 := hidH (new_two' w1)
  have HB := hidH hb1
  have B2 := hidH (two_below w1 0 (pad []) (pad []))
  clear hb1
  go_wp2_with (first | (refine wpList_store_row rfl 37 _ _ rfl w1.heap.size (rowC 0 (pad [])) rfl rfl 37 _ N1.out SZ.out rfl OZ.out ?_) | (refine wpList_store_row rfl 37 _ _ rfl (w1.heap.size + 1) (rowC 0 (pad [])) rfl rfl 37 _ (N2.out _) SZ.out rfl OZ.out ?_))
  go_ret2
  exact ⟨rfl, HB.out.trans (B2.out.mono HB.out.size)⟩
set_option maxHeartbeats 1600000 in
theorem aheadC_yes (h : flagged a b = true) : Calls Tryd.prog 16 #[.string a, .string b] w (fun e w' => e = .returned (.tuple #[.string ⟨(txt (aheadD 0 (dgS a) (dgS b))).toArray⟩, .bool true]) ∧ Below w.heap.size w w') := by
  have ⟨da, fb, la, lb, l1, l12⟩ := flag_facts a b h
  have LT := hidH la
  have LP := hidH lb
  have DT := hidH da
  have FP := hidH fb
  have V1 := hidH fun w => warned2_yes a b w hsa hsb h
  have lT : (pad (dgS a)).length = 12 := pad_length _ (by omega)
  have lP : (pad (dgS b)).length = 12 := pad_length _ (by omega)
  have S1 := hidH (row_size (a.size : Int) _ lT)
  have E1 := hidH (zero_size (a.size : Int) _ lT)
  have O1 := hidH (row_one (a.size : Int) (pad (dgS a)))
  have S2 := hidH (row_size (a.size : Int) _ lP)
  have E2 := hidH (zero_size (a.size : Int) _ lP)
  have O2 := hidH (row_one (a.size : Int) (pad (dgS b)))
  clear h lT lP
  go_enter Tryd.func16, Tryd.ntmps16
  go_wp2_with fail
  refine (V1.out _).mono ?_; rintro e w1 ⟨rfl, hb1⟩
  have N1 := hidH (new_one w1)
  have N2 := hidH (new_two' w1)
  have HB := hidH hb1
  have TB := hidH (two_below w1 a.size (pad (dgS a)) (pad (dgS b)))
  have TS := hidH (two_size w1 a.size (pad (dgS a)) (pad (dgS b)))
  have RA := hidH (two_a w1 a.size (pad (dgS a)) (pad (dgS b)))
  have RB := hidH (two_b w1 a.size (pad (dgS a)) (pad (dgS b)))
  clear hb1
  go_wp2_with (first | (refine wpList_store_row rfl 37 _ _ rfl w1.heap.size _ rfl rfl 37 _ N1.out S1.out E1.out O1.out ?_) | (refine wpList_store_row rfl 37 _ _ rfl (w1.heap.size + 1) _ rfl rfl 37 _ (N2.out _) S2.out E2.out O2.out ?_) | (refine wpList_load_row rfl 37 _ rfl (w1.heap.size + 1) rfl 37 _ (0, 0) _ RB.out Tryd.underlying37 rfl S2.out ?_))
  refine (ahead_any w1.heap.size a.size (dgS a) (dgS b) l12 LT.out LP.out DT.out FP.out _ RA.out).mono ?_
  rintro e w2 ⟨rfl, hr2, ho2⟩
  have R2 := hidH hr2
  have O3 := hidH (Onto.below ho2 (Nat.le_refl _) (by rw [TS.out]; omega))
  clear hr2 ho2
  go_wp2_with fail
  refine (text_row w1.heap.size a.size (aheadD 0 (dgS a) (dgS b)) (by rw [aheadD_length _ _ _ (by rw [LT.out, LP.out]), LT.out]) l12 (aheadD_digs _ _ _) _ R2.out).mono ?_
  rintro e w3 ⟨rfl, hb3⟩
  have H3 := hidH hb3
  clear hb3
  go_wp2
  go_ret2
  exact ⟨rfl, HB.out.trans ((TB.out.trans (O3.out.trans (H3.out.mono (Nat.le_trans TB.out.size O3.out.size)))).mono HB.out.size)⟩
set_option maxHeartbeats 1600000 in
theorem allC_no (h : flagged a b = false) : Calls Tryd.prog 15 #[.string a, .string b] w (fun e w' => e = .returned (.tuple #[.string ⟨#[]⟩, .int .i64 0, .bool false]) ∧ Below w.heap.size w w') := by
  have V1 := hidH fun w => warned2_no a b w hsa hsb h
  have SZ := hidH (row_size 0 (pad []) (by decide))
  have OZ := hidH (row_one 0 (pad []))
  clear h
  go_enter Tryd.func15, Tryd.ntmps15
  go_wp2_with fail
  refine (V1.out _).mono ?_; rintro e w1 ⟨rfl, hb1⟩
  have N1 := hidH (new_one w1)
  have N2 := hidH (new_two' w1)
  have HB := hidH hb1
  have B2 := hidH (two_below w1 0 (pad []) (pad []))
  clear hb1
  go_wp2_with (first | (refine wpList_store_row rfl 37 _ _ rfl w1.heap.size (rowC 0 (pad [])) rfl rfl 37 _ N1.out SZ.out rfl OZ.out ?_) | (refine wpList_store_row rfl 37 _ _ rfl (w1.heap.size + 1) (rowC 0 (pad [])) rfl rfl 37 _ (N2.out _) SZ.out rfl OZ.out ?_))
  go_ret3
  exact ⟨rfl, HB.out.trans (B2.out.mono HB.out.size)⟩
set_option maxHeartbeats 1600000 in
theorem allC_yes (h : flagged a b = true) : Calls Tryd.prog 15 #[.string a, .string b] w (fun e w' => e = .returned (.tuple #[.string ⟨(txt (allD a.size (dgS a) (dgS b)).1).toArray⟩, .int .i64 (allD a.size (dgS a) (dgS b)).2, .bool true]) ∧ Below w.heap.size w w') := by
  have ⟨da, fb, la, lb, l1, l12⟩ := flag_facts a b h
  have LT := hidH la
  have LP := hidH lb
  have DT := hidH da
  have FP := hidH fb
  have V1 := hidH fun w => warned2_yes a b w hsa hsb h
  have lT : (pad (dgS a)).length = 12 := pad_length _ (by omega)
  have lP : (pad (dgS b)).length = 12 := pad_length _ (by omega)
  have S1 := hidH (row_size (a.size : Int) _ lT)
  have E1 := hidH (zero_size (a.size : Int) _ lT)
  have O1 := hidH (row_one (a.size : Int) (pad (dgS a)))
  have S2 := hidH (row_size (a.size : Int) _ lP)
  have E2 := hidH (zero_size (a.size : Int) _ lP)
  have O2 := hidH (row_one (a.size : Int) (pad (dgS b)))
  clear h lT lP
  go_enter Tryd.func15, Tryd.ntmps15
  go_wp2_with fail
  refine (V1.out _).mono ?_; rintro e w1 ⟨rfl, hb1⟩
  have N1 := hidH (new_one w1)
  have N2 := hidH (new_two' w1)
  have HB := hidH hb1
  have TB := hidH (two_below w1 a.size (pad (dgS a)) (pad (dgS b)))
  have TS := hidH (two_size w1 a.size (pad (dgS a)) (pad (dgS b)))
  have RA := hidH (two_a w1 a.size (pad (dgS a)) (pad (dgS b)))
  have RB := hidH (two_b w1 a.size (pad (dgS a)) (pad (dgS b)))
  clear hb1
  go_wp2_with (first | (refine wpList_store_row rfl 37 _ _ rfl w1.heap.size _ rfl rfl 37 _ N1.out S1.out E1.out O1.out ?_) | (refine wpList_store_row rfl 37 _ _ rfl (w1.heap.size + 1) _ rfl rfl 37 _ (N2.out _) S2.out E2.out O2.out ?_) | (refine wpList_load_row rfl 37 _ rfl (w1.heap.size + 1) rfl 37 _ (0, 0) _ RB.out Tryd.underlying37 rfl S2.out ?_))
  refine (all_any w1.heap.size a.size (dgS a) (dgS b) l1 l12 LT.out LP.out DT.out FP.out _ RA.out).mono ?_
  rintro e w2 ⟨rfl, hr2, ho2⟩
  have R2 := hidH hr2
  have O3 := hidH (Onto.below ho2 (Nat.le_refl _) (by rw [TS.out]; omega))
  clear hr2 ho2
  have ⟨al, ad⟩ := allD_facts a.size a.size (dgS a) (dgS b) LT.out LP.out DT.out
  have AL := hidH al
  have AD := hidH ad
  clear al ad
  go_wp2_with fail
  refine (text_row w1.heap.size a.size (allD a.size (dgS a) (dgS b)).1 AL.out l12 AD.out _ R2.out).mono ?_
  rintro e w3 ⟨rfl, hb3⟩
  have H3 := hidH hb3
  clear hb3
  go_wp2
  go_ret3
  exact ⟨rfl, HB.out.trans ((TB.out.trans (O3.out.trans (H3.out.mono (Nat.le_trans TB.out.size O3.out.size)))).mono HB.out.size)⟩
set_option maxHeartbeats 1600000 in
theorem onceC_no (h : flagged a b = false) : Calls Tryd.prog 20 #[.string a, .string b] w (fun e w' => e = .returned (.tuple #[.string ⟨#[]⟩, .string ⟨#[]⟩, .bool false]) ∧ Below w.heap.size w w') := by
  have V1 := hidH fun w => warned2_no a b w hsa hsb h
  have SZ := hidH (row_size 0 (pad []) (by decide))
  have OZ := hidH (row_one 0 (pad []))
  clear h
  go_enter Tryd.func20, Tryd.ntmps20
  go_wp2_with fail
  refine (V1.out _).mono ?_; rintro e w1 ⟨rfl, hb1⟩
  have N1 := hidH (new_one w1)
  have N2 := hidH (new_two' w1)
  have HB := hidH hb1
  have B2 := hidH (two_below w1 0 (pad []) (pad []))
  clear hb1
  go_wp2_with (first | (refine wpList_store_row rfl 37 _ _ rfl w1.heap.size (rowC 0 (pad [])) rfl rfl 37 _ N1.out SZ.out rfl OZ.out ?_) | (refine wpList_store_row rfl 37 _ _ rfl (w1.heap.size + 1) (rowC 0 (pad [])) rfl rfl 37 _ (N2.out _) SZ.out rfl OZ.out ?_))
  go_ret3
  exact ⟨rfl, HB.out.trans (B2.out.mono HB.out.size)⟩
set_option maxHeartbeats 1600000 in
theorem onceC_yes (h : flagged a b = true) : Calls Tryd.prog 20 #[.string a, .string b] w (fun e w' => e = .returned (.tuple #[.string ⟨(txt (turnD (dgS a) (upD (dgS b)))).toArray⟩, .string ⟨(txt (passD (dgS a) (upD (dgS b)))).toArray⟩, .bool true]) ∧ Below w.heap.size w w') := by
  have ⟨da, fb, la, lb, l1, l12⟩ := flag_facts a b h
  have LT := hidH la
  have LP := hidH lb
  have DT := hidH da
  have FP := hidH fb
  have V1 := hidH fun w => warned2_yes a b w hsa hsb h
  have lT : (pad (dgS a)).length = 12 := pad_length _ (by omega)
  have lP : (pad (dgS b)).length = 12 := pad_length _ (by omega)
  have S1 := hidH (row_size (a.size : Int) _ lT)
  have E1 := hidH (zero_size (a.size : Int) _ lT)
  have O1 := hidH (row_one (a.size : Int) (pad (dgS a)))
  have S2 := hidH (row_size (a.size : Int) _ lP)
  have E2 := hidH (zero_size (a.size : Int) _ lP)
  have O2 := hidH (row_one (a.size : Int) (pad (dgS b)))
  clear h lT lP
  go_enter Tryd.func20, Tryd.ntmps20
  go_wp2_with fail
  refine (V1.out _).mono ?_; rintro e w1 ⟨rfl, hb1⟩
  have N1 := hidH (new_one w1)
  have N2 := hidH (new_two' w1)
  have HB := hidH hb1
  have TB := hidH (two_below w1 a.size (pad (dgS a)) (pad (dgS b)))
  have TS := hidH (two_size w1 a.size (pad (dgS a)) (pad (dgS b)))
  have RA := hidH (two_a w1 a.size (pad (dgS a)) (pad (dgS b)))
  have RB := hidH (two_b w1 a.size (pad (dgS a)) (pad (dgS b)))
  clear hb1
  go_wp2_with (first | (refine wpList_store_row rfl 37 _ _ rfl w1.heap.size _ rfl rfl 37 _ N1.out S1.out E1.out O1.out ?_) | (refine wpList_store_row rfl 37 _ _ rfl (w1.heap.size + 1) _ rfl rfl 37 _ (N2.out _) S2.out E2.out O2.out ?_) | (refine wpList_load_row rfl 37 _ rfl (w1.heap.size + 1) rfl 37 _ (0, 0) _ RB.out Tryd.underlying37 rfl S2.out ?_))
  refine (once_any w1.heap.size a.size (dgS a) (dgS b) l1 l12 LT.out LP.out DT.out (flags_digs FP.out) _ RA.out).mono ?_
  rintro e w2 ⟨rfl, hr2, ho2⟩
  have O3 := hidH (Onto.below ho2 (Nat.le_refl _) (by rw [TS.out]; omega))
  have ul : (upD (dgS b)).length = a.size := by rw [upD_length, LP.out]
  have lt2 : (turnD (dgS a) (upD (dgS b))).length = a.size := by rw [turnD_length _ _ (by rw [LT.out, ul]), LT.out]
  have lp2 : (passD (dgS a) (upD (dgS b))).length = a.size := by rw [passD_length _ _ (by rw [LT.out, ul]), LT.out]
  have lP2 : (pad (passD (dgS a) (upD (dgS b)))).length = 12 := pad_length _ (by omega)
  have S3 := hidH (row_size (a.size : Int) _ lP2)
  have E3 := hidH (zero_size (a.size : Int) _ lP2)
  have O4 := hidH (row_one (a.size : Int) (pad (passD (dgS a) (upD (dgS b)))))
  have FZ := hidH (RowAt.fresh w2 0 (pad []))
  have s2 : w1.heap.size + 2 ≤ w2.heap.size := by have := ho2.size; rw [TS.out] at this; exact this
  have RX := hidH (RowAt.setRowOther (hr2.alloc (.cells (rowC 0 (pad [])) 37)) w2.heap.size (rowC a.size (pad (passD (dgS a) (upD (dgS b))))) (by omega))
  have RY := hidH (RowAt.filled w2 a.size (pad (passD (dgS a) (upD (dgS b)))))
  have HW := hidH (Below.filled (HB.out.trans ((TB.out.trans O3.out).mono HB.out.size)) (Nat.le_trans HB.out.size (by omega)) (.cells (rowC 0 (pad [])) 37) w2.heap.size (rowC a.size (pad (passD (dgS a) (upD (dgS b))))) (Nat.le_trans HB.out.size (by omega)))
  have D1 := hidH (turnD_digs (dgS a) (upD (dgS b)))
  have D2 := hidH (flags_digs (passD_flags _ _ DT.out (upD_digs _ (flags_digs FP.out))))
  have L1 := hidH lt2
  have L2 := hidH lp2
  clear hr2 ho2 ul lt2 lp2 lP2
  go_wp2_with (refine wpList_store_row rfl 37 _ _ rfl w2.heap.size _ rfl rfl 37 _ FZ.out S3.out E3.out O4.out ?_)
  refine (text_row w1.heap.size a.size (turnD (dgS a) (upD (dgS b))) L1.out l12 D1.out _ RX.out).mono ?_
  rintro e w3 ⟨rfl, hb3⟩
  have H3 := hidH hb3
  have RZ := hidH (RY.out.below hb3)
  clear hb3
  go_wp2_with fail
  refine (text_row w2.heap.size a.size (passD (dgS a) (upD (dgS b))) L2.out l12 D2.out _ RZ.out).mono ?_
  rintro e w4 ⟨rfl, hb4⟩
  have H4 := hidH (HW.out.trans ((H3.out.trans (hb4.mono H3.out.size)).mono HW.out.size))
  clear hb4
  go_wp2
  go_ret3
  exact ⟨rfl, H4.out⟩
end Go.Proofs.YtfadmifadkknnaaDoor
