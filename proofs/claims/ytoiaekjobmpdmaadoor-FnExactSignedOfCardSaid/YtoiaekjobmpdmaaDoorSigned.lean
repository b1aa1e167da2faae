/-
  SignedOf, CastNines, CastElevens, NegateColumn and WidenColumn of the program and of the model, at a column and at no column. Condition: a string of at most 2 to the power of 63, minus 1, bytes.
-/
import Derived.Test.YtoiaekjobmpdmaaDoorValues
import Derived.Test.YtoiaekjobmpdmaaDoorColumnOf
namespace Go.Proofs.YtoiaekjobmpdmaaDoor
open Go.RowKit
variable (s : ByteArray) (hs : s.size ≤ 9223372036854775807) (w : World)
include hs
theorem valid_yes (h : ok s = true) : Calls Tryd.prog 11 #[.string s] w fun e w' => e = .returned (.bool true) ∧ Below w.heap.size w w' := h ▸ colValid_any s hs w
theorem valid_no (h : ok s = false) : Calls Tryd.prog 11 #[.string s] w fun e w' => e = .returned (.bool false) ∧ Below w.heap.size w w' := h ▸ colValid_any s hs w
theorem sValid_yes (h : ok s = true) : Calls Tryd.prog 10 #[.string s] w fun e w' => e = .returned (.bool true) ∧ w = w' := h ▸ sValid_any s hs w
theorem sValid_no (h : ok s = false) : Calls Tryd.prog 10 #[.string s] w fun e w' => e = .returned (.bool false) ∧ w = w' := h ▸ sValid_any s hs w
theorem value_yes (h : ok s = true) : Calls Tryd.prog 13 #[.string s] w fun e w' => e = .returned (.int .i64 (valS s)) ∧ Below w.heap.size w w' := by
  have := value_any s hs w
  rw [h] at this
  exact this
omit hs in
theorem valS_bd (h : ok s = true) : 0 ≤ valS s ∧ valS s < tenP s.size ∧ 1 ≤ s.size ∧ s.size ≤ 12 ∧ tenP s.size ≤ 1000000000000 := by
  have ⟨hd, h1, h2⟩ := (ok_iff s).1 h
  have hb := val_bd _ hd
  rw [size_len] at hb
  exact ⟨hb.1, hb.2, h1, h2, tenP_12 _ h2⟩
omit hs s w in
/-- The number that a column stands for. -/
def sgnS (s : ByteArray) : Int := if tenP s.size / 2 ≤ valS s then valS s - tenP s.size else valS s
theorem signed_no (h : ok s = false) : Calls Tryd.prog 15 #[.string s] w fun e w' => e = .returned (.tuple #[.int .i64 0, .bool false]) ∧ Below w.heap.size w w' := by
  have HV := hidH fun w => valid_no s hs w h
  clear h
  go_enter Tryd.func15, Tryd.ntmps15
  go_wp2_with (go_at_call 11; refine (HV.out _).mono ?_; rintro e w' ⟨rfl, hb⟩)
  go_ret2
  exact ⟨rfl, hb⟩
theorem signed_yes (h : ok s = true) : Calls Tryd.prog 15 #[.string s] w fun e w' => e = .returned (.tuple #[.int .i64 (sgnS s), .bool true]) ∧ Below w.heap.size w w' := by
  have HV := hidH fun w => valid_yes s hs w h
  have HU := hidH fun w => value_yes s hs w h
  have ⟨v0, v1, l1, l2, t⟩ := valS_bd s h
  have HX := hidH (show sgnS s = if tenP s.size / 2 ≤ valS s then valS s - tenP s.size else valS s from rfl)
  clear h
  by_cases hc : tenP s.size / 2 ≤ valS s
  · have HY := hidH (show sgnS s = valS s - tenP s.size by rw [HX.out, if_pos hc])
    go_enter Tryd.func15, Tryd.ntmps15
    go_wp2_with fail
    refine (HV.out _).mono ?_; rintro e w1 ⟨rfl, hb⟩
    go_wp2_with fail
    refine (HU.out _).mono ?_; rintro e w2 ⟨rfl, hb2⟩
    go_wp2_with fail
    refine (pow_any _ l2 _).mono ?_; rintro e w3 ⟨rfl, rfl⟩
    go_wp2
    go_ret2
    exact ⟨by rw [HY.out]; rfl, hb.trans (hb2.mono hb.size)⟩
  · have HY := hidH (show sgnS s = valS s by rw [HX.out, if_neg hc])
    go_enter Tryd.func15, Tryd.ntmps15
    go_wp2_with fail
    refine (HV.out _).mono ?_; rintro e w1 ⟨rfl, hb⟩
    go_wp2_with fail
    refine (HU.out _).mono ?_; rintro e w2 ⟨rfl, hb2⟩
    go_wp2_with fail
    refine (pow_any _ l2 _).mono ?_; rintro e w3 ⟨rfl, rfl⟩
    go_wp2
    go_ret2
    exact ⟨by rw [HY.out]; rfl, hb.trans (hb2.mono hb.size)⟩
omit hs in
theorem l1Signed_any (h : ok s = true) : Calls Tryd.prog 28 #[.string s] w fun e w' => e = .returned (.int .i64 (sgnS s)) ∧ w = w' := by
  have HU := hidH fun w => l1Value_any s h w
  have ⟨v0, v1, l1, l2, t⟩ := valS_bd s h
  have HX := hidH (show sgnS s = if tenP s.size / 2 ≤ valS s then valS s - tenP s.size else valS s from rfl)
  clear h
  by_cases hc : tenP s.size / 2 ≤ valS s
  · have HY := hidH (show sgnS s = valS s - tenP s.size by rw [HX.out, if_pos hc])
    go_enter Tryd.func28, Tryd.ntmps28
    go_wp2_with (first | (go_at_call 27; refine (HU.out _).mono ?_; rintro e w' ⟨rfl, rfl⟩) | (go_at_call 43; refine (sTen_any _ l2 _).mono ?_; rintro e w' ⟨rfl, rfl⟩))
    go_ret
    exact ⟨by rw [HY.out]; rfl, rfl⟩
  · have HY := hidH (show sgnS s = valS s by rw [HX.out, if_neg hc])
    go_enter Tryd.func28, Tryd.ntmps28
    go_wp2_with (first | (go_at_call 27; refine (HU.out _).mono ?_; rintro e w' ⟨rfl, rfl⟩) | (go_at_call 43; refine (sTen_any _ l2 _).mono ?_; rintro e w' ⟨rfl, rfl⟩))
    go_ret
    exact ⟨by rw [HY.out]; rfl, rfl⟩
theorem sSigned_no (h : ok s = false) : Calls Tryd.prog 14 #[.string s] w fun e w' => e = .returned (.tuple #[.int .i64 0, .bool false]) ∧ w = w' := by
  have HV := hidH fun w => sValid_no s hs w h
  clear h
  go_enter Tryd.func14, Tryd.ntmps14
  go_wp2_with (go_at_call 10; refine (HV.out _).mono ?_; rintro e w' ⟨rfl, rfl⟩)
  go_ret2
  exact ⟨rfl, rfl⟩
theorem sSigned_yes (h : ok s = true) : Calls Tryd.prog 14 #[.string s] w fun e w' => e = .returned (.tuple #[.int .i64 (sgnS s), .bool true]) ∧ w = w' := by
  have HV := hidH fun w => sValid_yes s hs w h
  have HU := hidH fun w => l1Signed_any s w h
  clear h
  go_enter Tryd.func14, Tryd.ntmps14
  go_wp2_with (first | (go_at_call 10; refine (HV.out _).mono ?_; rintro e w' ⟨rfl, rfl⟩) | (go_at_call 28; refine (HU.out _).mono ?_; rintro e w' ⟨rfl, rfl⟩))
  go_ret2
  exact ⟨rfl, rfl⟩
theorem cast_no (d : Int) (h : ok s = false) : Calls Tryd.prog 34 #[.string s, .int .i64 d] w fun e w' => e = .returned (.int .i64 (-1)) ∧ Below w.heap.size w w' := by
  have HV := hidH fun w => valid_no s hs w h
  clear h
  go_enter Tryd.func34, Tryd.ntmps34
  go_wp2_with (go_at_call 11; refine (HV.out _).mono ?_; rintro e w' ⟨rfl, hb⟩)
  go_ret
  exact ⟨rfl, hb⟩
theorem cast_yes (d : Int) (hd : 0 < d) (h : ok s = true) : Calls Tryd.prog 34 #[.string s, .int .i64 d] w fun e w' => e = .returned (.int .i64 (valS s % d)) ∧ Below w.heap.size w w' := by
  have HV := hidH fun w => valid_yes s hs w h
  have HU := hidH fun w => value_yes s hs w h
  have ⟨v0, _⟩ := valS_bd s h
  clear h
  have hne : ¬ d = 0 := by omega
  go_enter Tryd.func34, Tryd.ntmps34
  go_wp2_with fail
  refine (HV.out _).mono ?_; rintro e w1 ⟨rfl, hb⟩
  go_wp2_with fail
  refine (HU.out _).mono ?_; rintro e w2 ⟨rfl, hb2⟩
  go_wp2
  go_ret
  exact ⟨rfl, hb.trans (hb2.mono hb.size)⟩
theorem castNines_no (h : ok s = false) : Calls Tryd.prog 21 #[.string s] w fun e w' => e = .returned (.int .i64 (-1)) ∧ Below w.heap.size w w' := by
  have HV := hidH fun w => cast_no s hs w 9 h
  clear h
  go_enter Tryd.func21, Tryd.ntmps21
  go_wp2_with (go_at_call 34; refine (HV.out _).mono ?_; rintro e w' ⟨rfl, hb⟩)
  go_ret
  exact ⟨rfl, hb⟩
theorem castNines_yes (h : ok s = true) : Calls Tryd.prog 21 #[.string s] w fun e w' => e = .returned (.int .i64 (valS s % 9)) ∧ Below w.heap.size w w' := by
  have HV := hidH fun w => cast_yes s hs w 9 (by omega) h
  clear h
  go_enter Tryd.func21, Tryd.ntmps21
  go_wp2_with (go_at_call 34; refine (HV.out _).mono ?_; rintro e w' ⟨rfl, hb⟩)
  go_ret
  exact ⟨rfl, hb⟩
theorem sCastNines_no (h : ok s = false) : Calls Tryd.prog 20 #[.string s] w fun e w' => e = .returned (.int .i64 (-1)) ∧ w = w' := by
  have HV := hidH fun w => sValid_no s hs w h
  clear h
  go_enter Tryd.func20, Tryd.ntmps20
  go_wp2_with (go_at_call 10; refine (HV.out _).mono ?_; rintro e w' ⟨rfl, rfl⟩)
  go_ret
  exact ⟨rfl, rfl⟩
theorem sCastNines_yes (h : ok s = true) : Calls Tryd.prog 20 #[.string s] w fun e w' => e = .returned (.int .i64 (valS s % 9)) ∧ w = w' := by
  have HV := hidH fun w => sValid_yes s hs w h
  have HU := hidH fun w => l1Value_any s h w
  have ⟨v0, _⟩ := valS_bd s h
  clear h
  go_enter Tryd.func20, Tryd.ntmps20
  go_wp2_with (first | (go_at_call 10; refine (HV.out _).mono ?_; rintro e w' ⟨rfl, rfl⟩) | (go_at_call 27; refine (HU.out _).mono ?_; rintro e w' ⟨rfl, rfl⟩))
  go_ret
  exact ⟨rfl, rfl⟩
theorem castElevens_no (h : ok s = false) : Calls Tryd.prog 23 #[.string s] w fun e w' => e = .returned (.int .i64 (-1)) ∧ Below w.heap.size w w' := by
  have HV := hidH fun w => cast_no s hs w 11 h
  clear h
  go_enter Tryd.func23, Tryd.ntmps23
  go_wp2_with (go_at_call 34; refine (HV.out _).mono ?_; rintro e w' ⟨rfl, hb⟩)
  go_ret
  exact ⟨rfl, hb⟩
theorem castElevens_yes (h : ok s = true) : Calls Tryd.prog 23 #[.string s] w fun e w' => e = .returned (.int .i64 (valS s % 11)) ∧ Below w.heap.size w w' := by
  have HV := hidH fun w => cast_yes s hs w 11 (by omega) h
  clear h
  go_enter Tryd.func23, Tryd.ntmps23
  go_wp2_with (go_at_call 34; refine (HV.out _).mono ?_; rintro e w' ⟨rfl, hb⟩)
  go_ret
  exact ⟨rfl, hb⟩
theorem sCastElevens_no (h : ok s = false) : Calls Tryd.prog 22 #[.string s] w fun e w' => e = .returned (.int .i64 (-1)) ∧ w = w' := by
  have HV := hidH fun w => sValid_no s hs w h
  clear h
  go_enter Tryd.func22, Tryd.ntmps22
  go_wp2_with (go_at_call 10; refine (HV.out _).mono ?_; rintro e w' ⟨rfl, rfl⟩)
  go_ret
  exact ⟨rfl, rfl⟩
theorem sCastElevens_yes (h : ok s = true) : Calls Tryd.prog 22 #[.string s] w fun e w' => e = .returned (.int .i64 (valS s % 11)) ∧ w = w' := by
  have HV := hidH fun w => sValid_yes s hs w h
  have HU := hidH fun w => l1Value_any s h w
  have ⟨v0, _⟩ := valS_bd s h
  clear h
  go_enter Tryd.func22, Tryd.ntmps22
  go_wp2_with (first | (go_at_call 10; refine (HV.out _).mono ?_; rintro e w' ⟨rfl, rfl⟩) | (go_at_call 27; refine (HU.out _).mono ?_; rintro e w' ⟨rfl, rfl⟩))
  go_ret
  exact ⟨rfl, rfl⟩
theorem negate_no (h : ok s = false) : Calls Tryd.prog 19 #[.string s] w fun e w' => e = .returned (.tuple #[.string ⟨#[]⟩, .bool false]) ∧ Below w.heap.size w w' := by
  have HV := hidH fun w => valid_no s hs w h
  clear h
  go_enter Tryd.func19, Tryd.ntmps19
  go_wp2_with (go_at_call 11; refine (HV.out _).mono ?_; rintro e w' ⟨rfl, hb⟩)
  go_ret2
  exact ⟨rfl, hb⟩
theorem negate_yes (h : ok s = true) : Calls Tryd.prog 19 #[.string s] w fun e w' => e = .returned (.tuple #[.string ⟨(showB (-valS s) s.size).toArray⟩, .bool true]) ∧ Below w.heap.size w w' := by
  have HV := hidH fun w => valid_yes s hs w h
  have HU := hidH fun w => value_yes s hs w h
  have ⟨v0, v1, l1, l2, t⟩ := valS_bd s h
  clear h
  go_enter Tryd.func19, Tryd.ntmps19
  go_wp2_with fail
  refine (HV.out _).mono ?_; rintro e w1 ⟨rfl, hb⟩
  go_wp2_with fail
  refine (HU.out _).mono ?_; rintro e w2 ⟨rfl, hb2⟩
  go_wp2_with fail
  refine (show_any _ _ (by omega) (by omega) l2 _).mono ?_; rintro e w3 ⟨rfl, hb3⟩
  go_wp2
  go_ret2
  exact ⟨rfl, hb.trans ((hb2.trans (hb3.mono hb2.size)).mono hb.size)⟩
theorem sNegate_no (h : ok s = false) : Calls Tryd.prog 18 #[.string s] w fun e w' => e = .returned (.tuple #[.string ⟨#[]⟩, .bool false]) ∧ Below w.heap.size w w' := by
  have HV := hidH fun w => sValid_no s hs w h
  clear h
  go_enter Tryd.func18, Tryd.ntmps18
  go_wp2_with (go_at_call 10; refine (HV.out _).mono ?_; rintro e w' ⟨rfl, rfl⟩)
  go_ret2
  exact ⟨rfl, Below.refl _ _⟩
theorem sNegate_yes (h : ok s = true) : Calls Tryd.prog 18 #[.string s] w fun e w' => e = .returned (.tuple #[.string ⟨(showB (-valS s) s.size).toArray⟩, .bool true]) ∧ Below w.heap.size w w' := by
  have HV := hidH fun w => sValid_yes s hs w h
  have HU := hidH fun w => l1Value_any s h w
  have ⟨v0, v1, l1, l2, t⟩ := valS_bd s h
  clear h
  go_enter Tryd.func18, Tryd.ntmps18
  go_wp2_with fail
  refine (HV.out _).mono ?_; rintro e w1 ⟨rfl, rfl⟩
  go_wp2_with fail
  refine (HU.out _).mono ?_; rintro e w2 ⟨rfl, rfl⟩
  go_wp2_with fail
  refine (sShow_any _ _ l2 _).mono ?_; rintro e w3 ⟨rfl, hb3⟩
  go_wp2
  go_ret2
  exact ⟨rfl, hb3⟩
theorem widen_no (n : Int) (h : ok s = false) : Calls Tryd.prog 17 #[.string s, .int .i64 n] w (Gives (.tuple #[.string ⟨#[]⟩, .bool false]) w) := by
  have HV := hidH fun w => signed_no s hs w h
  clear h
  go_enter Tryd.func17, Tryd.ntmps17
  go_wp2_with (go_at_call 15; refine (HV.out _).mono ?_; rintro e w' ⟨rfl, hb⟩)
  go_ret2
  exact ⟨rfl, hb⟩
theorem sWiden_no (n : Int) (h : ok s = false) : Calls Tryd.prog 16 #[.string s, .int .i64 n] w (Gives (.tuple #[.string ⟨#[]⟩, .bool false]) w) := by
  have HV := hidH fun w => sValid_no s hs w h
  clear h
  go_enter Tryd.func16, Tryd.ntmps16
  go_wp2_with (go_at_call 10; refine (HV.out _).mono ?_; rintro e w' ⟨rfl, rfl⟩)
  go_ret2
  exact ⟨rfl, Below.refl _ _⟩
omit hs s w in
/-- What ColumnOf answers has two parts. -/
theorem colA_two (n wi : Int) : ∃ (t : ByteArray) (b : Bool), colA n wi = .tuple #[.string t, .bool b] := by
  unfold colA
  split
  · exact ⟨_, _, rfl⟩
  · exact ⟨_, _, rfl⟩
theorem widen_yes (n : Int) (h : ok s = true) : Calls Tryd.prog 17 #[.string s, .int .i64 n] w (Gives (colA (sgnS s) n) w) := by
  have HV := hidH fun w => signed_yes s hs w h
  clear h
  have HC := hidH fun w => col_any (sgnS s) n w
  obtain ⟨t, b, e⟩ := colA_two (sgnS s) n
  rw [e] at HC ⊢
  clear e
  go_enter Tryd.func17, Tryd.ntmps17
  go_wp2_with fail
  refine (HV.out _).mono ?_; rintro e w1 ⟨rfl, hb⟩
  go_wp2_with fail
  refine (HC.out _).mono ?_; rintro e w2 ⟨rfl, hb2⟩
  go_wp2
  go_ret2
  exact ⟨rfl, hb.trans (hb2.mono hb.size)⟩
theorem sWiden_yes (n : Int) (h : ok s = true) : Calls Tryd.prog 16 #[.string s, .int .i64 n] w (Gives (colA (sgnS s) n) w) := by
  have HV := hidH fun w => sValid_yes s hs w h
  have HU := hidH fun w => l1Signed_any s w h
  clear h
  have HC := hidH fun w => sCol_any (sgnS s) n w
  obtain ⟨t, b, e⟩ := colA_two (sgnS s) n
  rw [e] at HC ⊢
  clear e
  go_enter Tryd.func16, Tryd.ntmps16
  go_wp2_with fail
  refine (HV.out _).mono ?_; rintro e w1 ⟨rfl, rfl⟩
  go_wp2_with fail
  refine (HU.out _).mono ?_; rintro e w2 ⟨rfl, rfl⟩
  go_wp2_with fail
  refine (HC.out _).mono ?_; rintro e w2 ⟨rfl, hb2⟩
  go_wp2
  go_ret2
  exact ⟨rfl, hb2⟩
end Go.Proofs.YtoiaekjobmpdmaaDoor
