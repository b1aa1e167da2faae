/-
  SignedOf, CastNines, CastElevens and WidenColumn of the program and of the model, at a column and at no column. Condition: a string of at most 2 to the power of 63, minus 1, bytes.
-/
import Derived.Test.YtmjahklcliocjaaDoorNegate
import Derived.Test.YtmjahklcliocjaaDoorColumnOf
namespace Go.Proofs.YtmjahklcliocjaaDoor
set_option maxRecDepth 4000
open Go.RowKit
variable (s : ByteArray) (hs : s.size ≤ 9223372036854775807) (w : World)
include hs
omit hs s w in
/-- The number that a column stands for. -/
def sgnS (s : ByteArray) : Int := if tenP s.size / 2 ≤ valS s then valS s - tenP s.size else valS s
theorem signed_no (h : ok s = false) : Calls Tryd.prog 7 #[.string s] w fun e w' => e = .returned (.tuple #[.int .i64 0, .bool false]) ∧ Below w.heap.size w w' := by
  have HV := hidH fun w => valid_no s hs w h
  clear h
  go_enter Tryd.func7, Tryd.ntmps7
  go_wp2_with (go_at_call 9; refine (HV.out _).mono ?_; rintro e w' ⟨rfl, hb⟩)
  go_ret2
  exact ⟨rfl, hb⟩
theorem signed_yes (h : ok s = true) : Calls Tryd.prog 7 #[.string s] w fun e w' => e = .returned (.tuple #[.int .i64 (sgnS s), .bool true]) ∧ Below w.heap.size w w' := by
  have HV := hidH fun w => valid_yes s hs w h
  have HU := hidH fun w => value_yes s hs w h
  have ⟨v0, v1, l1, l2, t⟩ := valS_bd s h
  have HX := hidH (show sgnS s = if tenP s.size / 2 ≤ valS s then valS s - tenP s.size else valS s from rfl)
  clear h
  by_cases hc : tenP s.size / 2 ≤ valS s
  · have HY := hidH (show sgnS s = valS s - tenP s.size by rw [HX.out, if_pos hc])
    go_enter Tryd.func7, Tryd.ntmps7
    go_wp2_with fail
    refine (HV.out _).mono ?_; rintro e w1 ⟨rfl, hb⟩
    go_wp2_with fail
    refine (HU.out _).mono ?_; rintro e w2 ⟨rfl, hb2⟩
    go_wp2_with fail
    refine (pow_any _ l2 _).mono ?_; rintro e w3 ⟨rfl, rfl⟩
    go_wp2
    go_ret2
    exact ⟨by rw [HY.out]; rfl, hb.trans (hb2.mono hb.size)⟩
  · have HY := hidH (show sgnS s = valS s by rw [HX.out, if_neg hc])
    go_enter Tryd.func7, Tryd.ntmps7
    go_wp2_with fail
    refine (HV.out _).mono ?_; rintro e w1 ⟨rfl, hb⟩
    go_wp2_with fail
    refine (HU.out _).mono ?_; rintro e w2 ⟨rfl, hb2⟩
    go_wp2_with fail
    refine (pow_any _ l2 _).mono ?_; rintro e w3 ⟨rfl, rfl⟩
    go_wp2
    go_ret2
    exact ⟨by rw [HY.out]; rfl, hb.trans (hb2.mono hb.size)⟩
omit hs in
theorem l1Signed_any (h : ok s = true) : Calls Tryd.prog 19 #[.string s] w fun e w' => e = .returned (.int .i64 (sgnS s)) ∧ w = w' := by
  have HU := hidH fun w => l1Value_any s h w
  have ⟨v0, v1, l1, l2, t⟩ := valS_bd s h
  have HX := hidH (show sgnS s = if tenP s.size / 2 ≤ valS s then valS s - tenP s.size else valS s from rfl)
  clear h
  by_cases hc : tenP s.size / 2 ≤ valS s
  · have HY := hidH (show sgnS s = valS s - tenP s.size by rw [HX.out, if_pos hc])
    go_enter Tryd.func19, Tryd.ntmps19
    go_wp2_with (first | (go_at_call 33; refine (HU.out _).mono ?_; rintro e w' ⟨rfl, rfl⟩) | (go_at_call 34; refine (sTen_any _ l2 _).mono ?_; rintro e w' ⟨rfl, rfl⟩))
    go_ret
    exact ⟨by rw [HY.out]; rfl, rfl⟩
  · have HY := hidH (show sgnS s = valS s by rw [HX.out, if_neg hc])
    go_enter Tryd.func19, Tryd.ntmps19
    go_wp2_with (first | (go_at_call 33; refine (HU.out _).mono ?_; rintro e w' ⟨rfl, rfl⟩) | (go_at_call 34; refine (sTen_any _ l2 _).mono ?_; rintro e w' ⟨rfl, rfl⟩))
    go_ret
    exact ⟨by rw [HY.out]; rfl, rfl⟩
theorem sSigned_no (h : ok s = false) : Calls Tryd.prog 8 #[.string s] w fun e w' => e = .returned (.tuple #[.int .i64 0, .bool false]) ∧ w = w' := by
  have HV := hidH fun w => sValid_no s hs w h
  clear h
  go_enter Tryd.func8, Tryd.ntmps8
  go_wp2_with (go_at_call 18; refine (HV.out _).mono ?_; rintro e w' ⟨rfl, rfl⟩)
  go_ret2
  exact ⟨rfl, rfl⟩
theorem sSigned_yes (h : ok s = true) : Calls Tryd.prog 8 #[.string s] w fun e w' => e = .returned (.tuple #[.int .i64 (sgnS s), .bool true]) ∧ w = w' := by
  have HV := hidH fun w => sValid_yes s hs w h
  have HU := hidH fun w => l1Signed_any s w h
  clear h
  go_enter Tryd.func8, Tryd.ntmps8
  go_wp2_with (first | (go_at_call 18; refine (HV.out _).mono ?_; rintro e w' ⟨rfl, rfl⟩) | (go_at_call 19; refine (HU.out _).mono ?_; rintro e w' ⟨rfl, rfl⟩))
  go_ret2
  exact ⟨rfl, rfl⟩
omit hs s w in
/-- What ColumnOf answers has two parts. -/
theorem colA_two (n wi : Int) : ∃ (t : ByteArray) (b : Bool), colA n wi = .tuple #[.string t, .bool b] := by
  unfold colA
  split
  · exact ⟨_, _, rfl⟩
  · exact ⟨_, _, rfl⟩
end Go.Proofs.YtmjahklcliocjaaDoor
