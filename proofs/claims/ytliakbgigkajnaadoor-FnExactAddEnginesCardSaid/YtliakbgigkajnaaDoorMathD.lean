/-
  Columns as texts: the text that shows a number, its value, its sign and its highest digit, and sums of such texts. No conditions but that a width is from 1 to 12.
  Sums and differences of columns. Condition: columns.
-/
import Derived.Test.YtliakbgigkajnaaDoorNegate
import Derived.Test.YtliakbgigkajnaaDoorSpecC
import Derived.Test.YtliakbgigkajnaaDoorRowA
namespace Go.Proofs.YtliakbgigkajnaaDoor
set_option maxRecDepth 4000
open Go.RowKit
/-- The text that shows a number by wheels. -/
def showS (n : Int) (w : Nat) : ByteArray := ⟨(showB n w).toArray⟩
theorem showS_size (n : Int) (w : Nat) : (showS n w).size = w := by
  show (showB n w).toArray.size = _
  rw [List.size_toArray, showB_length]
theorem showS_ok (n : Int) (w : Nat) (h1 : 1 ≤ w) (h2 : w ≤ 12) : ok (showS n w) = true := by
  rw [ok_iff, showS_size]
  refine ⟨fun c hc => ?_, h1, h2⟩
  have hc' : c ∈ (showB n w).toArray.toList := hc
  rw [List.toList_toArray] at hc'
  exact showB_ok _ _ c hc'
theorem showS_val (n : Int) (w : Nat) : valS (showS n w) = n % tenP w := by
  show val (showB n w).toArray.toList = _
  rw [List.toList_toArray, val_showB]
theorem showS_mod (n : Int) (w : Nat) : showS (n % tenP w) w = showS n w := by
  unfold showS; rw [showB_mod]
theorem showS_of (s : ByteArray) (h : ok s = true) : showS (valS s) s.size = s := by
  have ⟨hd, _, _⟩ := (ok_iff s).1 h
  have e := showB_val s.data.toList hd
  rw [size_len] at e
  show (⟨(showB (val s.data.toList) s.size).toArray⟩ : ByteArray) = s
  rw [e]
theorem showS_congr (m n : Int) (w : Nat) (h : m % tenP w = n % tenP w) : showS m w = showS n w := by
  rw [← showS_mod m, h, showS_mod]
theorem sgnS_show (n : Int) (w : Nat) (h1 : 1 ≤ w) (hf : fits n w = true) : sgnS (showS n w) = n := by
  unfold sgnS
  rw [showS_val, showS_size]
  have ⟨a, b⟩ := (fits_iff n w).1 hf
  have ⟨t, _⟩ := tenP_even w h1
  generalize tenP w / 2 = H at *
  by_cases h0 : 0 ≤ n
  · rw [Int.emod_eq_of_lt h0 (by omega), if_neg (by omega)]
  · have e : n % tenP w = n + tenP w := by
      rw [← Int.add_emod_right, Int.emod_eq_of_lt (by omega) (by omega)]
    rw [e, if_pos (by omega)]
    omega
theorem sgnS_fits (s : ByteArray) (h : ok s = true) : fits (sgnS s) s.size = true := by
  have ⟨v0, v1, l1, l2, t⟩ := valS_bd s h
  have ⟨te, _⟩ := tenP_even s.size l1
  rw [fits_iff]
  unfold sgnS
  generalize tenP s.size / 2 = H at *
  split <;> omega
theorem sgnS_mod (s : ByteArray) (h : ok s = true) : sgnS s % tenP s.size = valS s := by
  have ⟨v0, v1, l1, l2, t⟩ := valS_bd s h
  unfold sgnS
  split
  · rw [Int.sub_emod_right, Int.emod_eq_of_lt v0 (by omega)]
  · rw [Int.emod_eq_of_lt v0 (by omega)]
theorem showS_sgn (s : ByteArray) (h : ok s = true) : showS (sgnS s) s.size = s := by
  rw [← showS_mod, sgnS_mod s h, showS_of s h]
/-- The highest digit tells whether the number is negative. -/
theorem high_digit (s : ByteArray) (h : ok s = true) (hp : 0 < s.size) : (53 ≤ (s[0].toNat : Int)) ↔ tenP s.size / 2 ≤ valS s := by
  have ⟨hd, l1, l2⟩ := (ok_iff s).1 h
  have hg := get_at s 0 hp
  have hl := size_len s
  unfold valS
  generalize s[0] = c at *
  generalize s.data.toList = l at *
  cases l with
  | nil => simp at hg
  | cons d t =>
    simp only [List.getElem?_cons_zero, Option.some.injEq] at hg
    subst hg
    have ht : ∀ c ∈ t, 48 ≤ (c.toNat : Int) ∧ (c.toNat : Int) ≤ 57 := fun c hc => hd c (List.mem_cons_of_mem _ hc)
    have ⟨b0, b1⟩ := val_bd t ht
    have e : val (d :: t) = val t + tenP t.length * ((d.toNat : Int) - 48) := by
      unfold val
      have : dg (d :: t) = dg t ++ [(d.toNat : Int) - 48] := by simp [dg]
      rw [this, num_append, dg_length]
      simp [num]
    have hs : s.size = t.length + 1 := by rw [← hl]; rfl
    rw [e, hs]
    have ep : tenP (t.length + 1) = 10 * tenP t.length := rfl
    rw [ep]
    have := hd d List.mem_cons_self
    generalize (d.toNat : Int) = x at *
    generalize tenP t.length = P at *
    have hx : x = 48 ∨ x = 49 ∨ x = 50 ∨ x = 51 ∨ x = 52 ∨ x = 53 ∨ x = 54 ∨ x = 55 ∨ x = 56 ∨ x = 57 := by omega
    rcases hx with rfl | rfl | rfl | rfl | rfl | rfl | rfl | rfl | rfl | rfl <;> omega
theorem high_neg (n : Int) (w : Nat) (h1 : 1 ≤ w) (h2 : w ≤ 12) (hf : fits n w = true) (hp : 0 < (showS n w).size) : (53 ≤ ((showS n w)[0].toNat : Int)) ↔ n < 0 := by
  rw [high_digit _ (showS_ok n w h1 h2), showS_val, showS_size]
  have ⟨a, b⟩ := (fits_iff n w).1 hf
  have ⟨t, _⟩ := tenP_even w h1
  generalize tenP w / 2 = H at *
  by_cases h0 : 0 ≤ n
  · rw [Int.emod_eq_of_lt h0 (by omega)]; omega
  · have e : n % tenP w = n + tenP w := by
      rw [← Int.add_emod_right, Int.emod_eq_of_lt (by omega) (by omega)]
    rw [e]; omega
/-- The sum of two columns. -/
def sumS (a b : ByteArray) : ByteArray := showS (valS a + valS b) a.size
theorem addS_yes (a b : ByteArray) (w : World) (ha : ok a = true) (hb : ok b = true) (hab : a.size = b.size) : Calls Tryd.prog 50 #[.string a, .string b] w (Gives (.tuple #[.string (sumS a b), .bool true]) w) := by
  have hp := (pair_iff a b).2 ⟨ha, hb, hab⟩
  have ⟨_, _, l⟩ := (ok_iff a).1 ha
  have h := addC_yes a b w (by omega) (by omega) hp
  rw [add_txt a b hp] at h
  exact h
end Go.Proofs.YtliakbgigkajnaaDoor
namespace Go.Proofs.YtliakbgigkajnaaDoor
set_option maxRecDepth 4000
open Go.RowKit
theorem sumS_ok (a b : ByteArray) (h : ok a = true) : ok (sumS a b) = true := by
  have ⟨_, g1, g2⟩ := (ok_iff a).1 h
  exact showS_ok _ _ g1 g2
theorem sumS_size (a b : ByteArray) : (sumS a b).size = a.size := showS_size _ _
theorem sumS_val (a b : ByteArray) : valS (sumS a b) = (valS a + valS b) % tenP a.size := showS_val _ _
theorem sumS_comm (a b : ByteArray) (hab : a.size = b.size) : sumS b a = sumS a b := by
  unfold sumS
  rw [← hab, Int.add_comm]
theorem sumS_assoc (a b c : ByteArray) (hab : a.size = b.size) : sumS (sumS a b) c = sumS a (sumS b c) := by
  show showS (valS (sumS a b) + valS c) (sumS a b).size = showS (valS a + valS (sumS b c)) a.size
  rw [sumS_size, sumS_val, sumS_val, ← hab]
  apply showS_congr
  rw [Int.emod_add_emod, Int.add_emod_emod, Int.add_assoc]
/-- The difference of two columns. -/
def difS (a b : ByteArray) : ByteArray := showS (valS a - valS b) a.size
theorem difS_ok (a b : ByteArray) (h : ok a = true) : ok (difS a b) = true := by
  have ⟨_, g1, g2⟩ := (ok_iff a).1 h
  exact showS_ok _ _ g1 g2
theorem difS_size (a b : ByteArray) : (difS a b).size = a.size := showS_size _ _
theorem difS_sum (a b : ByteArray) (h : ok a = true) : difS (sumS a b) b = a := by
  show showS (valS (sumS a b) - valS b) (sumS a b).size = a
  rw [sumS_val, sumS_size]
  rw [show showS ((valS a + valS b) % tenP a.size - valS b) a.size = showS (valS a) a.size from ?_, showS_of a h]
  apply showS_congr
  rw [Int.emod_sub_emod, Int.add_sub_cancel]
theorem difS_self (a : ByteArray) : valS (difS a a) = 0 := by
  show valS (showS (valS a - valS a) a.size) = 0
  rw [showS_val, Int.sub_self, Int.zero_emod]
theorem sumS_zero (a : ByteArray) (h : ok a = true) : sumS a (difS a a) = a := by
  unfold sumS
  rw [difS_self, Int.add_zero, showS_of a h]
theorem addS_no (a b : ByteArray) (w : World) (hsa : a.size ≤ 9223372036854775807) (hsb : b.size ≤ 9223372036854775807) (h : pair a b = false) : Calls Tryd.prog 50 #[.string a, .string b] w (Gives (.tuple #[.string ⟨#[]⟩, .bool false]) w) := addC_no a b w hsa hsb h
theorem subS_yes (a b : ByteArray) (w : World) (ha : ok a = true) (hb : ok b = true) (hab : a.size = b.size) : Calls Tryd.prog 66 #[.string a, .string b] w (Gives (.tuple #[.string (difS a b), .bool true]) w) := by
  have ⟨_, g1, g2⟩ := (ok_iff b).1 hb
  have HN : Hid (∀ w, Calls Tryd.prog 81 #[.string b] w (Gives (.tuple #[.string (showS (-valS b) b.size), .bool true]) w)) := hidH fun w => negate_yes b (by omega) w hb
  have HA := hidH fun w => addS_yes a (showS (-valS b) b.size) w ha (showS_ok _ _ g1 g2) (by rw [showS_size]; exact hab)
  have e : sumS a (showS (-valS b) b.size) = difS a b := by
    unfold sumS difS
    rw [showS_val, ← hab]
    apply showS_congr
    rw [Int.add_emod_emod, Int.sub_eq_add_neg]
  rw [e] at HA
  clear e ha hb
  generalize showS (-valS b) b.size = B at *
  generalize difS a b = D at *
  go_enter Tryd.func66, Tryd.ntmps66
  go_wp2_with fail
  refine (HN.out _).mono ?_; rintro e w1 ⟨rfl, hb1⟩
  go_wp2_with fail
  refine (HA.out _).mono ?_; rintro e w2 ⟨rfl, hb2⟩
  go_wp2
  first | go_ret | go_ret2
  exact ⟨rfl, hb1.trans (hb2.mono hb1.size)⟩
end Go.Proofs.YtliakbgigkajnaaDoor
