/-
  NegateColumn of the program, at a column and at no column. Condition: a string of at most 2 to the power of 63, minus 1, bytes.
-/
import Derived.Test.YtffmhcahiabicaaDoorValid
import Derived.Test.YtffmhcahiabicaaDoorSpecB
namespace Go.Proofs.YtffmhcahiabicaaDoor
set_option maxRecDepth 4000
open Go.RowKit
variable (s : ByteArray) (hs : s.size ≤ 9223372036854775807) (w : World)
include hs
theorem negate_no (h : ok s = false) : Calls Tryd.prog 134 #[.string s] w fun e w' => e = .returned (.tuple #[.string ⟨#[]⟩, .bool false]) ∧ Below w.heap.size w w' := by
  have HV := hidH fun w => valid_no s hs w h
  clear h
  go_enter Tryd.func134, Tryd.ntmps134
  go_wp2_with (go_at_call 53; refine (HV.out _).mono ?_; rintro e w' ⟨rfl, hb⟩)
  go_ret2
  exact ⟨rfl, hb⟩
theorem negate_yes (h : ok s = true) : Calls Tryd.prog 134 #[.string s] w fun e w' => e = .returned (.tuple #[.string ⟨(showB (-valS s) s.size).toArray⟩, .bool true]) ∧ Below w.heap.size w w' := by
  have HV := hidH fun w => valid_yes s hs w h
  have HU := hidH fun w => value_yes s hs w h
  have ⟨v0, v1, l1, l2, t⟩ := valS_bd s h
  clear h
  go_enter Tryd.func134, Tryd.ntmps134
  go_wp2_with fail
  refine (HV.out _).mono ?_; rintro e w1 ⟨rfl, hb⟩
  go_wp2_with fail
  refine (HU.out _).mono ?_; rintro e w2 ⟨rfl, hb2⟩
  go_wp2_with fail
  refine (show_any _ _ (by omega) (by omega) l2 _).mono ?_; rintro e w3 ⟨rfl, hb3⟩
  go_wp2
  go_ret2
  exact ⟨rfl, hb.trans ((hb2.trans (hb3.mono hb2.size)).mono hb.size)⟩
end Go.Proofs.YtffmhcahiabicaaDoor
