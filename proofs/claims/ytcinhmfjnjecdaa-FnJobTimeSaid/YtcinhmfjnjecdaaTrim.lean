/-
  strings.Trim of digits and of marks leaves nothing exactly if the text has no other bytes. Condition: a text of at most 2 to the power of 63, minus 1, bytes.
-/
import Derived.Test.YtcinhmfjnjecdaaCols
import Derived.Test.YtcinhmfjnjecdaaShelf
import Derived.Shelf.Strings.SlTrimAscii
namespace Go.Proofs.Ytcinhmfjnjecdaa
set_option maxRecDepth 4000
open Go.RowKit Go.Shelf
theorem digits_set (c : UInt8) : ([48, 49, 50, 51, 52, 53, 54, 55, 56, 57] : List UInt8).contains c = isDig c := by
  rw [Bool.eq_iff_iff]
  simp only [isDig, List.contains_iff_mem, List.mem_cons, List.mem_nil_iff, or_false, Bool.and_eq_true, decide_eq_true_eq, ← UInt8.toNat_inj, UInt8.le_iff_toNat_le]
  simp
  omega
theorem marks_set (c : UInt8) : ([48, 49] : List UInt8).contains c = isMark c := by
  rw [Bool.eq_iff_iff]
  simp [isMark]
theorem trim_empty (p : UInt8 → Bool) (l cs : List UInt8) (h : ∀ c, cs.contains c = p c) : (⟨(Lib.trimS l cs).toArray⟩ : ByteArray).toList.isEmpty = l.all p := by
  rw [Lib.toList_data]
  show (Lib.trimS l cs).isEmpty = _
  have hp : (cs.contains ·) = p := funext h
  rw [Bool.eq_iff_iff, List.isEmpty_iff, List.all_eq_true]
  unfold Lib.trimS Lib.trimLeftS Lib.trimRightS
  rw [hp]
  exact trim_nil p l
end Go.Proofs.Ytcinhmfjnjecdaa
