/-
  The wheels of a column: reading a text into a row of wheels. Condition: a column.
-/
import Derived.Test.YtffmhcahiabicaaDoorValues
import Derived.Test.YtffmhcahiabicaaDoorOnto
namespace Go.Proofs.YtffmhcahiabicaaDoor
set_option maxRecDepth 4000
open Go.RowKit
/-- The digits of a column, the lowest first. -/
def dgS (s : ByteArray) : List Int := dg s.data.toList
/-- The wheels of a column of which k digits, from the highest one on, have been read. -/
def readD (l : List UInt8) (n k : Nat) : List Int := List.replicate (n - k) 0 ++ dg (l.take k) ++ List.replicate (12 - n) 0
theorem readD_length (l : List UInt8) (n k : Nat) (hk : k ≤ n) (hl : l.length = n) (hn : n ≤ 12) : (readD l n k).length = 12 := by
  simp [readD, dg_length]; omega
theorem readD_set (l : List UInt8) (n k : Nat) (c : UInt8) (hk : k < n) (hc : l[k]? = some c) : (readD l n k).set (n - 1 - k) ((c.toNat : Int) - 48) = readD l n (k + 1) := by
  unfold readD
  have e1 : n - k = (n - 1 - k) + 1 := by omega
  have e2 : n - (k + 1) = n - 1 - k := by omega
  have e3 : l.take (k + 1) = l.take k ++ [c] := by rw [List.take_add_one, hc]; rfl
  rw [e2, e3, dg_snoc, e1, List.replicate_succ', List.append_assoc, List.append_assoc, List.append_assoc, List.set_append_right _ _ (by simp)]
  simp
theorem readD_full (l : List UInt8) (n : Nat) (hl : l.length = n) : readD l n n = pad (dg l) := by
  unfold readD pad
  rw [Nat.sub_self, List.take_of_length_le (by omega), dg_length, hl]
  simp
/-- Twelve numbers, written out. -/
theorem row12 (L : List Int) (h : L.length = 12) : ∃ d0 d1 d2 d3 d4 d5 d6 d7 d8 d9 d10 d11, L = [d0, d1, d2, d3, d4, d5, d6, d7, d8, d9, d10, d11] := by
  match L, h with
  | [d0, d1, d2, d3, d4, d5, d6, d7, d8, d9, d10, d11], _ => exact ⟨_, _, _, _, _, _, _, _, _, _, _, _, rfl⟩
theorem rowC_lit (n d0 d1 d2 d3 d4 d5 d6 d7 d8 d9 d10 d11 : Int) : rowC n [d0, d1, d2, d3, d4, d5, d6, d7, d8, d9, d10, d11] = #[.int .i64 n, .int .i64 d0, .int .i64 d1, .int .i64 d2, .int .i64 d3, .int .i64 d4, .int .i64 d5, .int .i64 d6, .int .i64 d7, .int .i64 d8, .int .i64 d9, .int .i64 d10, .int .i64 d11] := rfl
set_option maxHeartbeats 800000 in
theorem rowOf_any (s : ByteArray) (hok : ok s = true) (w : World) : Calls Tryd.prog 158 #[.string s] w fun e w' => e = .returned (.agg (rowC s.size (pad (dgS s)))) ∧ Below w.heap.size w w' := by
  have ⟨hd, l1, l2⟩ := (ok_iff s).1 hok
  have HD := hidH hd
  clear hok hd
  go_enter Tryd.func158, Tryd.ntmps158
  go_wp2
  go_loopw [10] (fun i wr => ∃ k : Nat, k ≤ s.size ∧ i = .int .i64 k ∧ wr = (w.alloc (.cells #[.int .i64 0, .int .i64 0, .int .i64 0, .int .i64 0, .int .i64 0, .int .i64 0, .int .i64 0, .int .i64 0, .int .i64 0, .int .i64 0, .int .i64 0, .int .i64 0, .int .i64 0] 124)).alloc (.cells (rowC s.size (readD s.data.toList s.size k)) 124)) (fun i _ => s.size - (intOf i).toNat)
  case atStart =>
    refine ⟨0, Nat.zero_le _, rfl, ?_⟩
    have e : readD s.data.toList s.size 0 = [0, 0, 0, 0, 0, 0, 0, 0, 0, 0, 0, 0] := by
      unfold readD
      rw [List.take_zero, show dg [] = [] from rfl, List.append_nil, List.replicate_append_replicate, show s.size - 0 + (12 - s.size) = 12 by omega]
      rfl
    rw [e]
    rfl
  case round =>
    obtain ⟨k, hk, rfl, rfl⟩ := hrel
    by_cases hlt : k < s.size
    · have ⟨b1, b2⟩ := HD.out _ (List.mem_of_getElem? (get_at s k hlt))
      have HG := hidH (get_at s k hlt)
      have hc : ∃ v, (rowC (s.size : Int) (readD s.data.toList s.size k))[1 + (s.size - 1 - k)]? = some v := ⟨_, Array.getElem?_eq_getElem (by rw [rowC_size, readD_length _ _ _ hk (size_len s) l2]; omega)⟩
      obtain ⟨v, hc⟩ := hc
      go_wp2
      go_roundw
      case rel => exact ⟨k + 1, by omega, by go_num, by rw [Nat.add_comm 1, rowC_set, readD_set _ _ _ _ hlt HG.out]⟩
      case measure => simp [intOf]; omega
    · obtain rfl : k = s.size := by omega
      have e1 := readD_full s.data.toList s.size (size_len s)
      have hl := readD_length s.data.toList s.size s.size hk (size_len s) l2
      obtain ⟨d0, d1, d2, d3, d4, d5, d6, d7, d8, d9, d10, d11, e⟩ := row12 _ hl
      rw [e, rowC_lit]
      have HX := hidH (show pad (dgS s) = [d0, d1, d2, d3, d4, d5, d6, d7, d8, d9, d10, d11] by rw [← e, e1]; rfl)
      clear e1 hl e
      go_wp2
      refine bodyPost_ret (v := .agg #[.int .i64 s.size, .int .i64 d0, .int .i64 d1, .int .i64 d2, .int .i64 d3, .int .i64 d4, .int .i64 d5, .int .i64 d6, .int .i64 d7, .int .i64 d8, .int .i64 d9, .int .i64 d10, .int .i64 d11]) ?_ rfl ⟨?_, ?_⟩
      · simp [results, Tryd.results158, go_sem]
      · rw [HX.out, rowC_lit]
      · exact ((Below.refl _ _).alloc (Nat.le_refl _) _).alloc (by simp) _
end Go.Proofs.YtffmhcahiabicaaDoor
