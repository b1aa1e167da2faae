/-
  The model's functions of two columns: pairs, marks, turns without carries. Condition: texts of at most 2 to the power of 63, minus 1, bytes.
  The model's marks, moved up, and its sums of columns. Condition: texts of at most 2 to the power of 63, minus 1, bytes.
-/
import Derived.Test.YtliakbgigkajnaaDoorRowA
import Derived.Test.YtliakbgigkajnaaDoorSpecA
import Derived.Test.YtliakbgigkajnaaDoorValues
namespace Go.Proofs.YtliakbgigkajnaaDoor
set_option maxRecDepth 4000
open Go.RowKit
/-- Bytes in a slice of which the last m are still 0. -/
def fwdC (l : List UInt8) (m : Nat) : Array Value := (l.map (fun c => Value.int .u8 c.toNat) ++ List.replicate m (Value.int .u8 0)).toArray
theorem fwdC_start (n : Nat) : byteC n [] = fwdC [] n := by simp [byteC, fwdC]
theorem fwdC_full (l : List UInt8) : fwdC l 0 = byteC 0 l := by simp [byteC, fwdC]
theorem fwdC_at (l : List UInt8) (m : Nat) (j : Nat) (h : j < l.length + m) : ∃ v, (fwdC l m)[j]? = some v := by
  have : j < (fwdC l m).size := by simp [fwdC]; omega
  exact ⟨_, Array.getElem?_eq_getElem this⟩
theorem fwdC_set (l : List UInt8) (m : Nat) (c : UInt8) : (fwdC l (m + 1)).setIfInBounds l.length (.int .u8 c.toNat) = fwdC (l ++ [c]) m := by
  unfold fwdC
  rw [List.setIfInBounds_toArray, List.set_append_right _ _ (by simp), List.length_map, Nat.sub_self, List.replicate_succ, List.set_cons_zero]
  simp
theorem chr_nat (d : Int) (h : 0 ≤ d ∧ d ≤ 9) : ((chr d).toNat : Int) = 48 + d := byte_of d h
end Go.Proofs.YtliakbgigkajnaaDoor
namespace Go.Proofs.YtliakbgigkajnaaDoor
set_option maxRecDepth 4000
open Go.RowKit
/-- Marks moved up, as a text. -/
def upS (m : ByteArray) : ByteArray := ⟨(m.data.toList.drop 1 ++ [48]).toArray⟩
theorem upS_size (m : ByteArray) (h : 1 ≤ m.size) : (upS m).size = m.size := by
  have e : m.data.toList.length = m.size := size_len m
  show (m.data.toList.drop 1 ++ [48]).toArray.size = _
  rw [List.size_toArray, List.length_append, List.length_drop, List.length_singleton]
  omega
theorem upS_dg (m : ByteArray) (h : 1 ≤ m.size) : dgS (upS m) = upD (dgS m) := by
  have e : m.data.toList.length = m.size := size_len m
  unfold dgS upS
  simp only
  cases hl : m.data.toList with
  | nil => rw [hl] at e; simp at e; omega
  | cons x t =>
    have e1 : dg (x :: t) = dg t ++ [(x.toNat : Int) - 48] := by simp [dg]
    rw [e1]
    show dg (t ++ [48]) = _
    rw [dg_snoc, upD, List.length_append, dg_length, List.length_singleton, List.take_succ_cons, List.take_left' (by rw [dg_length])]
    rfl
theorem upS_ok (c m : ByteArray) (h : flagged c m = true) : pair c (upS m) = true ∧ ok (upS m) = true ∧ (upS m).size = c.size := by
  have ⟨hc, hm, hs, _⟩ := flagged_facts c m h
  have ⟨dm, l1, l2⟩ := (ok_iff m).1 hm
  have es := upS_size m l1
  have ho : ok (upS m) = true := by
    rw [ok_iff]
    refine ⟨fun x hx => ?_, by omega, by omega⟩
    have hx' : x ∈ m.data.toList.drop 1 ++ [48] := hx
    rcases List.mem_append.1 hx' with hx | hx
    · exact dm x (List.mem_of_mem_drop hx)
    · rw [List.mem_singleton.1 hx]; decide
  exact ⟨(pair_iff _ _).2 ⟨hc, ho, by omega⟩, ho, by omega⟩
theorem up_eq (m : ByteArray) : m.extract 1 m.size ++ ⟨#[48]⟩ = upS m := by
  apply ByteArray.ext
  rw [ByteArray.data_append, ByteArray.data_extract]
  unfold upS
  apply Array.ext'
  simp
  exact List.take_of_length_le (by rw [List.length_tail, size_len]; exact Nat.le_refl _)
/-- A sum of what two columns show, as the texts of their digits give it. -/
theorem add_txt (a b : ByteArray) (h : pair a b = true) : txt (aheadD 0 (turnD (dgS a) (dgS b)) (passD (dgS a) (dgS b))) = showB (valS a + valS b) a.size := by
  obtain ⟨ha, hb, hab⟩ := (pair_iff a b).1 h
  have ⟨_, la⟩ := dgS_facts a ha
  have ⟨_, lb⟩ := dgS_facts b hb
  rw [ahead_adds _ _ (by omega), la]
  rfl
theorem ahead_txt (c m : ByteArray) (h : flagged c m = true) : txt (aheadD 0 (dgS c) (dgS m)) = showB (valS c + valS (upS m)) c.size := by
  have ⟨hc, hm, hs, hf⟩ := flagged_facts c m h
  have ⟨_, lc⟩ := dgS_facts c hc
  have ⟨_, lm⟩ := dgS_facts m hm
  have ⟨_, l1, _⟩ := (ok_iff m).1 hm
  rw [ahead_up _ _ (flags_digs hf) (by omega), lc, ← upS_dg m l1]
  rfl
end Go.Proofs.YtliakbgigkajnaaDoor
