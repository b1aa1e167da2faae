/-
  NegateColumn of the model, at a column and at no column. Condition: a string of at most 2 to the power of 63, minus 1, bytes.
-/
import Derived.Test.YtoannmpbjaaaoaaDoorNegate
namespace Go.Proofs.YtoannmpbjaaaoaaDoor
open Go.RowKit
variable (s : ByteArray) (hs : s.size ≤ 9223372036854775807) (w : World)
include hs
theorem sNegate_no (h : ok s = false) : Calls Tryd.prog 20 #[.string s] w fun e w' => e = .returned (.tuple #[.string ⟨#[]⟩, .bool false]) ∧ Below w.heap.size w w' := by
  have HV := hidH fun w => sValid_no s hs w h
  clear h
  go_enter Tryd.func20, Tryd.ntmps20
  go_wp2_with (go_at_call 39; refine (HV.out _).mono ?_; rintro e w' ⟨rfl, rfl⟩)
  go_ret2
  exact ⟨rfl, Below.refl _ _⟩
theorem sNegate_yes (h : ok s = true) : Calls Tryd.prog 20 #[.string s] w fun e w' => e = .returned (.tuple #[.string ⟨(showB (-valS s) s.size).toArray⟩, .bool true]) ∧ Below w.heap.size w w' := by
  have HV := hidH fun w => sValid_yes s hs w h
  have HU := hidH fun w => l1Value_any s h w
  have ⟨v0, v1, l1, l2, t⟩ := valS_bd s h
  clear h
  go_enter Tryd.func20, Tryd.ntmps20
  go_wp2_with fail
  refine (HV.out _).mono ?_; rintro e w1 ⟨rfl, rfl⟩
  go_wp2_with fail
  refine (HU.out _).mono ?_; rintro e w2 ⟨rfl, rfl⟩
  go_wp2_with fail
  refine (sShow_any _ _ l2 _).mono ?_; rintro e w3 ⟨rfl, hb3⟩
  go_wp2
  go_ret2
  exact ⟨rfl, hb3⟩
end Go.Proofs.YtoannmpbjaaaoaaDoor
