/-
  ColumnValid and ValueOf, apart by whether a string is a column. Condition: a string of at most 2 to the power of 63, minus 1, bytes.
-/
import Derived.Test.YtffmhcahiabicaaDoorValues
namespace Go.Proofs.YtffmhcahiabicaaDoor
set_option maxRecDepth 4000
open Go.RowKit
variable (s : ByteArray) (hs : s.size ≤ 9223372036854775807) (w : World)
include hs
theorem valid_yes (h : ok s = true) : Calls Tryd.prog 53 #[.string s] w fun e w' => e = .returned (.bool true) ∧ Below w.heap.size w w' := h ▸ colValid_any s hs w
theorem valid_no (h : ok s = false) : Calls Tryd.prog 53 #[.string s] w fun e w' => e = .returned (.bool false) ∧ Below w.heap.size w w' := h ▸ colValid_any s hs w
theorem sValid_yes (h : ok s = true) : Calls Tryd.prog 80 #[.string s] w fun e w' => e = .returned (.bool true) ∧ w = w' := h ▸ sValid_any s hs w
theorem sValid_no (h : ok s = false) : Calls Tryd.prog 80 #[.string s] w fun e w' => e = .returned (.bool false) ∧ w = w' := h ▸ sValid_any s hs w
theorem value_yes (h : ok s = true) : Calls Tryd.prog 105 #[.string s] w fun e w' => e = .returned (.int .i64 (valS s)) ∧ Below w.heap.size w w' := by
  have := value_any s hs w
  rw [h] at this
  exact this
omit hs in
theorem valS_bd (h : ok s = true) : 0 ≤ valS s ∧ valS s < tenP s.size ∧ 1 ≤ s.size ∧ s.size ≤ 12 ∧ tenP s.size ≤ 1000000000000 := by
  have ⟨hd, h1, h2⟩ := (ok_iff s).1 h
  have hb := val_bd _ hd
  rw [size_len] at hb
  exact ⟨hb.1, hb.2, h1, h2, tenP_12 _ h2⟩
end Go.Proofs.YtffmhcahiabicaaDoor
