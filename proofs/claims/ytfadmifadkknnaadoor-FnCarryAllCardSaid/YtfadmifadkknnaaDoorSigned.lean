/-
  SignedOf, CastNines, CastElevens and WidenColumn of the program and of the model, at a column and at no column. Condition: a string of at most 2 to the power of 63, minus 1, bytes.
-/
import Derived.Test.YtfadmifadkknnaaDoorNegate
import Derived.Test.YtfadmifadkknnaaDoorColumnOf
namespace Go.Proofs.YtfadmifadkknnaaDoor
open Go.RowKit
variable (s : ByteArray) (hs : s.size ≤ 9223372036854775807) (w : World)
include hs
omit hs s w in
/-- The number that a column stands for. -/
def sgnS (s : ByteArray) : Int := if tenP s.size / 2 ≤ valS s then valS s - tenP s.size else valS s
theorem cast_no (d : Int) (h : ok s = false) : Calls Tryd.prog 51 #[.string s, .int .i64 d] w fun e w' => e = .returned (.int .i64 (-1)) ∧ Below w.heap.size w w' := by
  have HV := hidH fun w => valid_no s hs w h
  clear h
  go_enter Tryd.func51, Tryd.ntmps51
  go_wp2_with (go_at_call 29; refine (HV.out _).mono ?_; rintro e w' ⟨rfl, hb⟩)
  go_ret
  exact ⟨rfl, hb⟩
theorem cast_yes (d : Int) (hd : 0 < d) (h : ok s = true) : Calls Tryd.prog 51 #[.string s, .int .i64 d] w fun e w' => e = .returned (.int .i64 (valS s % d)) ∧ Below w.heap.size w w' := by
  have HV := hidH fun w => valid_yes s hs w h
  have HU := hidH fun w => value_yes s hs w h
  have ⟨v0, _⟩ := valS_bd s h
  clear h
  have hne : ¬ d = 0 := by omega
  go_enter Tryd.func51, Tryd.ntmps51
  go_wp2_with fail
  refine (HV.out _).mono ?_; rintro e w1 ⟨rfl, hb⟩
  go_wp2_with fail
  refine (HU.out _).mono ?_; rintro e w2 ⟨rfl, hb2⟩
  go_wp2
  go_ret
  exact ⟨rfl, hb.trans (hb2.mono hb.size)⟩
theorem castNines_no (h : ok s = false) : Calls Tryd.prog 30 #[.string s] w fun e w' => e = .returned (.int .i64 (-1)) ∧ Below w.heap.size w w' := by
  have HV := hidH fun w => cast_no s hs w 9 h
  clear h
  go_enter Tryd.func30, Tryd.ntmps30
  go_wp2_with (go_at_call 51; refine (HV.out _).mono ?_; rintro e w' ⟨rfl, hb⟩)
  go_ret
  exact ⟨rfl, hb⟩
theorem castNines_yes (h : ok s = true) : Calls Tryd.prog 30 #[.string s] w fun e w' => e = .returned (.int .i64 (valS s % 9)) ∧ Below w.heap.size w w' := by
  have HV := hidH fun w => cast_yes s hs w 9 (by omega) h
  clear h
  go_enter Tryd.func30, Tryd.ntmps30
  go_wp2_with (go_at_call 51; refine (HV.out _).mono ?_; rintro e w' ⟨rfl, hb⟩)
  go_ret
  exact ⟨rfl, hb⟩
theorem castElevens_no (h : ok s = false) : Calls Tryd.prog 31 #[.string s] w fun e w' => e = .returned (.int .i64 (-1)) ∧ Below w.heap.size w w' := by
  have HV := hidH fun w => cast_no s hs w 11 h
  clear h
  go_enter Tryd.func31, Tryd.ntmps31
  go_wp2_with (go_at_call 51; refine (HV.out _).mono ?_; rintro e w' ⟨rfl, hb⟩)
  go_ret
  exact ⟨rfl, hb⟩
theorem castElevens_yes (h : ok s = true) : Calls Tryd.prog 31 #[.string s] w fun e w' => e = .returned (.int .i64 (valS s % 11)) ∧ Below w.heap.size w w' := by
  have HV := hidH fun w => cast_yes s hs w 11 (by omega) h
  clear h
  go_enter Tryd.func31, Tryd.ntmps31
  go_wp2_with (go_at_call 51; refine (HV.out _).mono ?_; rintro e w' ⟨rfl, hb⟩)
  go_ret
  exact ⟨rfl, hb⟩
omit hs s w in
/-- What ColumnOf answers has two parts. -/
theorem colA_two (n wi : Int) : ∃ (t : ByteArray) (b : Bool), colA n wi = .tuple #[.string t, .bool b] := by
  unfold colA
  split
  · exact ⟨_, _, rfl⟩
  · exact ⟨_, _, rfl⟩
end Go.Proofs.YtfadmifadkknnaaDoor
