/-
  The wheels of a column: reading a text into a row of wheels. Condition: a column.
-/
import Derived.Test.YtmjahklcliocjaaDoorValues
import Derived.Test.YtmjahklcliocjaaDoorOnto
namespace Go.Proofs.YtmjahklcliocjaaDoor
set_option maxRecDepth 4000
open Go.RowKit
/-- The digits of a column, the lowest first. -/
def dgS (s : ByteArray) : List Int := dg s.data.toList
/-- The wheels of a column of which k digits, from the highest one on, have been read. -/
def readD (l : List UInt8) (n k : Nat) : List Int := List.replicate (n - k) 0 ++ dg (l.take k) ++ List.replicate (12 - n) 0
theorem readD_length (l : List UInt8) (n k : Nat) (hk : k ≤ n) (hl : l.length = n) (hn : n ≤ 12) : (readD l n k).length = 12 := by
  simp [readD, dg_length]; omega
theorem readD_set (l : List UInt8) (n k : Nat) (c : UInt8) (hk : k < n) (hc : l[k]? = some c) : (readD l n k).set (n - 1 - k) ((c.toNat : Int) - 48) = readD l n (k + 1) := by
  unfold readD
  have e1 : n - k = (n - 1 - k) + 1 := by omega
  have e2 : n - (k + 1) = n - 1 - k := by omega
  have e3 : l.take (k + 1) = l.take k ++ [c] := by rw [List.take_add_one, hc]; rfl
  rw [e2, e3, dg_snoc, e1, List.replicate_succ', List.append_assoc, List.append_assoc, List.append_assoc, List.set_append_right _ _ (by simp)]
  simp
theorem readD_full (l : List UInt8) (n : Nat) (hl : l.length = n) : readD l n n = pad (dg l) := by
  unfold readD pad
  rw [Nat.sub_self, List.take_of_length_le (by omega), dg_length, hl]
  simp
/-- Twelve numbers, written out. -/
theorem row12 (L : List Int) (h : L.length = 12) : ∃ d0 d1 d2 d3 d4 d5 d6 d7 d8 d9 d10 d11, L = [d0, d1, d2, d3, d4, d5, d6, d7, d8, d9, d10, d11] := by
  match L, h with
  | [d0, d1, d2, d3, d4, d5, d6, d7, d8, d9, d10, d11], _ => exact ⟨_, _, _, _, _, _, _, _, _, _, _, _, rfl⟩
theorem rowC_lit (n d0 d1 d2 d3 d4 d5 d6 d7 d8 d9 d10 d11 : Int) : rowC n [d0, d1, d2, d3, d4, d5, d6, d7, d8, d9, d10, d11] = #[.int .i64 n, .int .i64 d0, .int .i64 d1, .int .i64 d2, .int .i64 d3, .int .i64 d4, .int .i64 d5, .int .i64 d6, .int .i64 d7, .int .i64 d8, .int .i64 d9, .int .i64 d10, .int .i64 d11] := rfl
end Go.Proofs.YtmjahklcliocjaaDoor
