/-
  ColumnValid and ValueOf of the program and of the model: whether a string is a column, and the number that it shows. Condition: a string of at most 2 to the power of 63, minus 1, bytes.
  ColumnValid and ValueOf, apart by whether a string is a column. Condition: a string of at most 2 to the power of 63, minus 1, bytes.
-/
import Derived.Test.YtcinhmfjnjecdaaTrim
import Derived.Test.YtcinhmfjnjecdaaSpecA
namespace Go.Proofs.Ytcinhmfjnjecdaa
set_option maxRecDepth 4000
open Go.RowKit
theorem size_len (s : ByteArray) : s.data.toList.length = s.size := by simp
theorem get_at (s : ByteArray) (k : Nat) (h : k < s.size) : s.data.toList[k]? = some s[k] := by
  rw [List.getElem?_eq_getElem (by rw [size_len]; exact h)]; rfl
theorem take_more (s : ByteArray) (k : Nat) (h : k < s.size) : s.data.toList.take (k + 1) = s.data.toList.take k ++ [s[k]] := by
  rw [List.take_add_one, get_at s k h]; rfl
/-- A string is a column. -/
def ok (s : ByteArray) : Bool := colOk s.data.toList
theorem ok_iff (s : ByteArray) : ok s = true ↔ (∀ c ∈ s.data.toList, 48 ≤ (c.toNat : Int) ∧ (c.toNat : Int) ≤ 57) ∧ 1 ≤ s.size ∧ s.size ≤ 12 := by
  rw [ok, colOk_iff, size_len]
/-- The number that a string of digits shows. -/
def valS (s : ByteArray) : Int := val s.data.toList
theorem val_prefix (l : List UInt8) (h : ∀ c ∈ l, 48 ≤ (c.toNat : Int) ∧ (c.toNat : Int) ≤ 57) (hl : l.length ≤ 12) (k : Nat) : 0 ≤ val (l.take k) ∧ val (l.take k) < 1000000000000 := by
  have h2 : ∀ c ∈ l.take k, 48 ≤ (c.toNat : Int) ∧ (c.toNat : Int) ≤ 57 := fun c hc => h c (List.mem_of_mem_take hc)
  have := val_bd _ h2
  have := tenP_12 (l.take k).length (by rw [List.length_take]; omega)
  omega
end Go.Proofs.Ytcinhmfjnjecdaa
namespace Go.Proofs.Ytcinhmfjnjecdaa
set_option maxRecDepth 4000
open Go.RowKit
variable (s : ByteArray) (hs : s.size ≤ 9223372036854775807) (w : World)
include hs
omit hs in
theorem valS_bd (h : ok s = true) : 0 ≤ valS s ∧ valS s < tenP s.size ∧ 1 ≤ s.size ∧ s.size ≤ 12 ∧ tenP s.size ≤ 1000000000000 := by
  have ⟨hd, h1, h2⟩ := (ok_iff s).1 h
  have hb := val_bd _ hd
  rw [size_len] at hb
  exact ⟨hb.1, hb.2, h1, h2, tenP_12 _ h2⟩
end Go.Proofs.Ytcinhmfjnjecdaa
