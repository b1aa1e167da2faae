/-
  SignedOf, CastNines, CastElevens and WidenColumn of the program and of the model, at a column and at no column. Condition: a string of at most 2 to the power of 63, minus 1, bytes.
-/
import Derived.Test.YtffmhcahiabicaaDoorNegate
import Derived.Test.YtffmhcahiabicaaDoorColumnOf
namespace Go.Proofs.YtffmhcahiabicaaDoor
set_option maxRecDepth 4000
open Go.RowKit
variable (s : ByteArray) (hs : s.size ≤ 9223372036854775807) (w : World)
include hs
omit hs s w in
/-- The number that a column stands for. -/
def sgnS (s : ByteArray) : Int := if tenP s.size / 2 ≤ valS s then valS s - tenP s.size else valS s
theorem signed_no (h : ok s = false) : Calls Tryd.prog 67 #[.string s] w fun e w' => e = .returned (.tuple #[.int .i64 0, .bool false]) ∧ Below w.heap.size w w' := by
  have HV := hidH fun w => valid_no s hs w h
  clear h
  go_enter Tryd.func67, Tryd.ntmps67
  go_wp2_with (go_at_call 53; refine (HV.out _).mono ?_; rintro e w' ⟨rfl, hb⟩)
  go_ret2
  exact ⟨rfl, hb⟩
theorem signed_yes (h : ok s = true) : Calls Tryd.prog 67 #[.string s] w fun e w' => e = .returned (.tuple #[.int .i64 (sgnS s), .bool true]) ∧ Below w.heap.size w w' := by
  have HV := hidH fun w => valid_yes s hs w h
  have HU := hidH fun w => value_yes s hs w h
  have ⟨v0, v1, l1, l2, t⟩ := valS_bd s h
  have HX := hidH (show sgnS s = if tenP s.size / 2 ≤ valS s then valS s - tenP s.size else valS s from rfl)
  clear h
  by_cases hc : tenP s.size / 2 ≤ valS s
  · have HY := hidH (show sgnS s = valS s - tenP s.size by rw [HX.out, if_pos hc])
    go_enter Tryd.func67, Tryd.ntmps67
    go_wp2_with fail
    refine (HV.out _).mono ?_; rintro e w1 ⟨rfl, hb⟩
    go_wp2_with fail
    refine (HU.out _).mono ?_; rintro e w2 ⟨rfl, hb2⟩
    go_wp2_with fail
    refine (pow_any _ l2 _).mono ?_; rintro e w3 ⟨rfl, rfl⟩
    go_wp2
    go_ret2
    exact ⟨by rw [HY.out]; rfl, hb.trans (hb2.mono hb.size)⟩
  · have HY := hidH (show sgnS s = valS s by rw [HX.out, if_neg hc])
    go_enter Tryd.func67, Tryd.ntmps67
    go_wp2_with fail
    refine (HV.out _).mono ?_; rintro e w1 ⟨rfl, hb⟩
    go_wp2_with fail
    refine (HU.out _).mono ?_; rintro e w2 ⟨rfl, hb2⟩
    go_wp2_with fail
    refine (pow_any _ l2 _).mono ?_; rintro e w3 ⟨rfl, rfl⟩
    go_wp2
    go_ret2
    exact ⟨by rw [HY.out]; rfl, hb.trans (hb2.mono hb.size)⟩
omit hs in
theorem l1Signed_any (h : ok s = true) : Calls Tryd.prog 74 #[.string s] w fun e w' => e = .returned (.int .i64 (sgnS s)) ∧ w = w' := by
  have HU := hidH fun w => l1Value_any s h w
  have ⟨v0, v1, l1, l2, t⟩ := valS_bd s h
  have HX := hidH (show sgnS s = if tenP s.size / 2 ≤ valS s then valS s - tenP s.size else valS s from rfl)
  clear h
  by_cases hc : tenP s.size / 2 ≤ valS s
  · have HY := hidH (show sgnS s = valS s - tenP s.size by rw [HX.out, if_pos hc])
    go_enter Tryd.func74, Tryd.ntmps74
    go_wp2_with (first | (go_at_call 108; refine (HU.out _).mono ?_; rintro e w' ⟨rfl, rfl⟩) | (go_at_call 109; refine (sTen_any _ l2 _).mono ?_; rintro e w' ⟨rfl, rfl⟩))
    go_ret
    exact ⟨by rw [HY.out]; rfl, rfl⟩
  · have HY := hidH (show sgnS s = valS s by rw [HX.out, if_neg hc])
    go_enter Tryd.func74, Tryd.ntmps74
    go_wp2_with (first | (go_at_call 108; refine (HU.out _).mono ?_; rintro e w' ⟨rfl, rfl⟩) | (go_at_call 109; refine (sTen_any _ l2 _).mono ?_; rintro e w' ⟨rfl, rfl⟩))
    go_ret
    exact ⟨by rw [HY.out]; rfl, rfl⟩
theorem widen_no (n : Int) (h : ok s = false) : Calls Tryd.prog 77 #[.string s, .int .i64 n] w (Gives (.tuple #[.string ⟨#[]⟩, .bool false]) w) := by
  have HV := hidH fun w => signed_no s hs w h
  clear h
  go_enter Tryd.func77, Tryd.ntmps77
  go_wp2_with (go_at_call 67; refine (HV.out _).mono ?_; rintro e w' ⟨rfl, hb⟩)
  go_ret2
  exact ⟨rfl, hb⟩
theorem sWiden_no (n : Int) (h : ok s = false) : Calls Tryd.prog 79 #[.string s, .int .i64 n] w (Gives (.tuple #[.string ⟨#[]⟩, .bool false]) w) := by
  have HV := hidH fun w => sValid_no s hs w h
  clear h
  go_enter Tryd.func79, Tryd.ntmps79
  go_wp2_with (go_at_call 80; refine (HV.out _).mono ?_; rintro e w' ⟨rfl, rfl⟩)
  go_ret2
  exact ⟨rfl, Below.refl _ _⟩
omit hs s w in
/-- What ColumnOf answers has two parts. -/
theorem colA_two (n wi : Int) : ∃ (t : ByteArray) (b : Bool), colA n wi = .tuple #[.string t, .bool b] := by
  unfold colA
  split
  · exact ⟨_, _, rfl⟩
  · exact ⟨_, _, rfl⟩
theorem widen_yes (n : Int) (h : ok s = true) : Calls Tryd.prog 77 #[.string s, .int .i64 n] w (Gives (colA (sgnS s) n) w) := by
  have HV := hidH fun w => signed_yes s hs w h
  clear h
  have HC := hidH fun w => col_any (sgnS s) n w
  obtain ⟨t, b, e⟩ := colA_two (sgnS s) n
  rw [e] at HC ⊢
  clear e
  go_enter Tryd.func77, Tryd.ntmps77
  go_wp2_with fail
  refine (HV.out _).mono ?_; rintro e w1 ⟨rfl, hb⟩
  go_wp2_with fail
  refine (HC.out _).mono ?_; rintro e w2 ⟨rfl, hb2⟩
  go_wp2
  go_ret2
  exact ⟨rfl, hb.trans (hb2.mono hb.size)⟩
theorem sWiden_yes (n : Int) (h : ok s = true) : Calls Tryd.prog 79 #[.string s, .int .i64 n] w (Gives (colA (sgnS s) n) w) := by
  have HV := hidH fun w => sValid_yes s hs w h
  have HU := hidH fun w => l1Signed_any s w h
  clear h
  have HC := hidH fun w => sCol_any (sgnS s) n w
  obtain ⟨t, b, e⟩ := colA_two (sgnS s) n
  rw [e] at HC ⊢
  clear e
  go_enter Tryd.func79, Tryd.ntmps79
  go_wp2_with fail
  refine (HV.out _).mono ?_; rintro e w1 ⟨rfl, rfl⟩
  go_wp2_with fail
  refine (HU.out _).mono ?_; rintro e w2 ⟨rfl, rfl⟩
  go_wp2_with fail
  refine (HC.out _).mono ?_; rintro e w2 ⟨rfl, hb2⟩
  go_wp2
  go_ret2
  exact ⟨rfl, hb2⟩
end Go.Proofs.YtffmhcahiabicaaDoor
