/-
  The model's reading of a decimal text: a number in its own decimal text of at most 17 digits, or none. Condition: a text of at most 2 to the power of 63, minus 1, bytes.
-/
import Derived.Test.YtffmhcahiabicaaDoorStrMath
import Derived.Test.YtffmhcahiabicaaDoorBase
namespace Go.Proofs.YtffmhcahiabicaaDoor
set_option maxRecDepth 4000
open Go.RowKit
theorem size_lenB (s : ByteArray) : s.data.toList.length = s.size := by simp
theorem get_atB (s : ByteArray) (k : Nat) (h : k < s.size) : s.data.toList[k]? = some s[k] := by
  rw [List.getElem?_eq_getElem (by rw [size_lenB]; exact h)]; rfl
theorem take_moreB (s : ByteArray) (k : Nat) (h : k < s.size) : s.data.toList.take (k + 1) = s.data.toList.take k ++ [s[k]] := by
  rw [List.take_add_one, get_atB s k h]; rfl
theorem head_eqB (s : ByteArray) (h : 0 < s.size) : ∃ t, s.data.toList = s[0] :: t ∧ t.length + 1 = s.size := by
  have e := get_atB s 0 h
  cases hl : s.data.toList with
  | nil => rw [hl] at e; simp at e
  | cons c t =>
    rw [hl] at e
    simp at e
    refine ⟨t, by rw [e], ?_⟩
    rw [← size_lenB s, hl]; simp
/-- How digits end. -/
theorem canL_size0 (neg : Bool) (l : List UInt8) (h : l.length = 0) : canL neg l = false := by
  cases l with
  | nil => rfl
  | cons c r => simp at h
theorem canL_long (neg : Bool) (l : List UInt8) (h : 17 < l.length) : canL neg l = false := by
  cases l with
  | nil => rfl
  | cons c r => simp only [canL]; rw [decide_eq_false (by omega)]; simp
theorem canL_bad (neg : Bool) (l : List UInt8) (h : l.all dgt = false) : canL neg l = false := by
  cases l with
  | nil => rfl
  | cons c r => simp only [canL, h]; simp
theorem canL_zero (neg : Bool) (c : UInt8) (r : List UInt8) (h : c.toNat = 48) (h1 : neg = true ∨ 0 < r.length) : canL neg (c :: r) = false := by
  have e : (neg || !r.isEmpty) = true := by
    rcases h1 with h1 | h1
    · simp [h1]
    · cases r with
      | nil => simp at h1
      | cons d t => simp
  simp only [canL, e, decide_eq_true h]; simp
theorem canL_yes (neg : Bool) (c : UInt8) (r : List UInt8) (h17 : (c :: r).length ≤ 17) (h : c.toNat ≠ 48 ∨ (neg = false ∧ r = [])) (ha : (c :: r).all dgt = true) : canL neg (c :: r) = true := by
  have e : (decide (c.toNat = 48) && (neg || !r.isEmpty)) = false := by
    rcases h with h | ⟨h, h2⟩
    · simp [h]
    · subst h; subst h2; simp
  simp only [canL, e, ha, decide_eq_true h17]; rfl
theorem spell_17 (l : List UInt8) (h : l.all dgt = true) (k : Nat) (hk : k ≤ 17) (hl : l.length ≤ k) : spell 0 l < 100000000000000000 := by
  have h1 := spell_lt l h 0
  have h2 : 10 ^ l.length ≤ 10 ^ 17 := Nat.pow_le_pow_right (by decide) (by omega)
  omega
theorem spell_16 (l : List UInt8) (h : l.all dgt = true) (hl : l.length < 17) : spell 0 l < 10000000000000000 := by
  have h1 := spell_lt l h 0
  have h2 : 10 ^ l.length ≤ 10 ^ 16 := Nat.pow_le_pow_right (by decide) (by omega)
  omega
/-- What the model answers of digits behind a sign or none. -/
def numV (neg : Bool) (l : List UInt8) : Value := if canL neg l then .tuple #[.int .i64 (if neg then -(spell 0 l : Nat) else (spell 0 l : Nat)), .bool true] else .tuple #[.int .i64 0, .bool false]
def numA (s : ByteArray) : Value := match numL s.data.toList with
  | some n => .tuple #[.int .i64 n, .bool true]
  | none => .tuple #[.int .i64 0, .bool false]
theorem numA_empty (s : ByteArray) (h : s.size = 0) : numA s = .tuple #[.int .i64 0, .bool false] := by
  have hl : s.data.toList = [] := List.eq_nil_of_length_eq_zero (by rw [size_lenB]; exact h)
  unfold numA
  rw [hl]
  rfl
theorem numA_pos (s : ByteArray) (h : 0 < s.size) (h1 : (s[0].toNat : Int) ≠ 45) : numA s = numV false s.data.toList := by
  obtain ⟨t, ht, _⟩ := head_eqB s h
  unfold numA numV
  rw [ht]
  simp only [numL]
  rw [if_neg (by omega)]
  by_cases hc : canL false (s[0] :: t) = true
  · rw [if_pos hc, if_pos hc]; simp
  · rw [if_neg hc, if_neg hc]
theorem numA_neg (s : ByteArray) (h : 0 < s.size) (h1 : (s[0].toNat : Int) = 45) : numA s = numV true (s.extract 1 s.size).data.toList := by
  obtain ⟨t, ht, hl⟩ := head_eqB s h
  have e : (s.extract 1 s.size).data.toList = t := by
    rw [ByteArray.data_extract, Array.toList_extract, ht]
    simp [List.extract, ← hl]
  rw [e]
  unfold numA numV
  rw [ht]
  simp only [numL]
  rw [if_pos (by omega)]
  by_cases hc : canL true t = true
  · rw [if_pos hc, if_pos hc]; simp
  · rw [if_neg hc, if_neg hc]
end Go.Proofs.YtffmhcahiabicaaDoor
