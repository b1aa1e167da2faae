/-
  Sums and differences of columns. Condition: columns.
-/
import Derived.Test.YtffmhcahiabicaaDoorMathD
import Derived.Test.YtffmhcahiabicaaDoorNegate
namespace Go.Proofs.YtffmhcahiabicaaDoor
set_option maxRecDepth 4000
open Go.RowKit
theorem sumS_ok (a b : ByteArray) (h : ok a = true) : ok (sumS a b) = true := by
  have ⟨_, g1, g2⟩ := (ok_iff a).1 h
  exact showS_ok _ _ g1 g2
theorem sumS_size (a b : ByteArray) : (sumS a b).size = a.size := showS_size _ _
theorem sumS_val (a b : ByteArray) : valS (sumS a b) = (valS a + valS b) % tenP a.size := showS_val _ _
theorem sumS_comm (a b : ByteArray) (hab : a.size = b.size) : sumS b a = sumS a b := by
  unfold sumS
  rw [← hab, Int.add_comm]
theorem sumS_assoc (a b c : ByteArray) (hab : a.size = b.size) : sumS (sumS a b) c = sumS a (sumS b c) := by
  show showS (valS (sumS a b) + valS c) (sumS a b).size = showS (valS a + valS (sumS b c)) a.size
  rw [sumS_size, sumS_val, sumS_val, ← hab]
  apply showS_congr
  rw [Int.emod_add_emod, Int.add_emod_emod, Int.add_assoc]
/-- The difference of two columns. -/
def difS (a b : ByteArray) : ByteArray := showS (valS a - valS b) a.size
theorem difS_ok (a b : ByteArray) (h : ok a = true) : ok (difS a b) = true := by
  have ⟨_, g1, g2⟩ := (ok_iff a).1 h
  exact showS_ok _ _ g1 g2
theorem difS_size (a b : ByteArray) : (difS a b).size = a.size := showS_size _ _
theorem difS_sum (a b : ByteArray) (h : ok a = true) : difS (sumS a b) b = a := by
  show showS (valS (sumS a b) - valS b) (sumS a b).size = a
  rw [sumS_val, sumS_size]
  rw [show showS ((valS a + valS b) % tenP a.size - valS b) a.size = showS (valS a) a.size from ?_, showS_of a h]
  apply showS_congr
  rw [Int.emod_sub_emod, Int.add_sub_cancel]
theorem difS_self (a : ByteArray) : valS (difS a a) = 0 := by
  show valS (showS (valS a - valS a) a.size) = 0
  rw [showS_val, Int.sub_self, Int.zero_emod]
theorem sumS_zero (a : ByteArray) (h : ok a = true) : sumS a (difS a a) = a := by
  unfold sumS
  rw [difS_self, Int.add_zero, showS_of a h]
theorem addS_no (a b : ByteArray) (w : World) (hsa : a.size ≤ 9223372036854775807) (hsb : b.size ≤ 9223372036854775807) (h : pair a b = false) : Calls Tryd.prog 135 #[.string a, .string b] w (Gives (.tuple #[.string ⟨#[]⟩, .bool false]) w) := addC_no a b w hsa hsb h
theorem subS_yes (a b : ByteArray) (w : World) (ha : ok a = true) (hb : ok b = true) (hab : a.size = b.size) : Calls Tryd.prog 112 #[.string a, .string b] w (Gives (.tuple #[.string (difS a b), .bool true]) w) := by
  have ⟨_, g1, g2⟩ := (ok_iff b).1 hb
  have HN : Hid (∀ w, Calls Tryd.prog 134 #[.string b] w (Gives (.tuple #[.string (showS (-valS b) b.size), .bool true]) w)) := hidH fun w => negate_yes b (by omega) w hb
  have HA := hidH fun w => addS_yes a (showS (-valS b) b.size) w ha (showS_ok _ _ g1 g2) (by rw [showS_size]; exact hab)
  have e : sumS a (showS (-valS b) b.size) = difS a b := by
    unfold sumS difS
    rw [showS_val, ← hab]
    apply showS_congr
    rw [Int.add_emod_emod, Int.sub_eq_add_neg]
  rw [e] at HA
  clear e ha hb
  generalize showS (-valS b) b.size = B at *
  generalize difS a b = D at *
  go_enter Tryd.func112, Tryd.ntmps112
  go_wp2_with fail
  refine (HN.out _).mono ?_; rintro e w1 ⟨rfl, hb1⟩
  go_wp2_with fail
  refine (HA.out _).mono ?_; rintro e w2 ⟨rfl, hb2⟩
  go_wp2
  first | go_ret | go_ret2
  exact ⟨rfl, hb1.trans (hb2.mono hb1.size)⟩
end Go.Proofs.YtffmhcahiabicaaDoor
