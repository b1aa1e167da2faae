/-
  The wheels of a column: reading a text into a row of wheels. Condition: a column.
  A row of wheels turned by another one, without carries. Condition: both rows have the same width, of at most twelve wheels.
  All carries of a row of wheels made at once, and whether a wheel is marked. Condition: the row and the marks have the same width, of at most twelve wheels.
  Whether a wheel of a row is marked. No conditions but that the row has twelve wheels.
  One time of carries of a row of wheels. Condition: the row and the marks have the same width, between 1 and 12.
  Carries of a row of wheels in sequence, and how often. Condition: the row and the marks have the same width, between 1 and 12.
  The two steps before carries: two texts read into rows of wheels, and turned. Condition: texts of at most 2 to the power of 63, minus 1, bytes.
  A column and marks of its wheels read into rows of wheels. Condition: texts of at most 2 to the power of 63, minus 1, bytes.
  The program's TurnWheels, WarnedWheels and AddColumns at two columns and at no such. Condition: texts of at most 2 to the power of 63, minus 1, bytes.
-/
import Derived.Test.YtliakbgigkajnaaDoorValues
import Derived.Test.YtliakbgigkajnaaDoorOnto
import Derived.Test.YtliakbgigkajnaaDoorMath
import Derived.ChangeKeysEq
import Derived.StillTailTactics
import Derived.Laws.CopyRow
import Derived.Deep.RegionLaw
namespace Go.Proofs.YtliakbgigkajnaaDoor
set_option maxRecDepth 4000
open Go.RowKit
/-- The digits of a column, the lowest first. -/
def dgS (s : ByteArray) : List Int := dg s.data.toList
/-- The wheels of a column of which k digits, from the highest one on, have been read. -/
def readD (l : List UInt8) (n k : Nat) : List Int := List.replicate (n - k) 0 ++ dg (l.take k) ++ List.replicate (12 - n) 0
theorem readD_length (l : List UInt8) (n k : Nat) (hk : k ≤ n) (hl : l.length = n) (hn : n ≤ 12) : (readD l n k).length = 12 := by
  simp [readD, dg_length]; omega
theorem readD_set (l : List UInt8) (n k : Nat) (c : UInt8) (hk : k < n) (hc : l[k]? = some c) : (readD l n k).set (n - 1 - k) ((c.toNat : Int) - 48) = readD l n (k + 1) := by
  unfold readD
  have e1 : n - k = (n - 1 - k) + 1 := by omega
  have e2 : n - (k + 1) = n - 1 - k := by omega
  have e3 : l.take (k + 1) = l.take k ++ [c] := by rw [List.take_add_one, hc]; rfl
  rw [e2, e3, dg_snoc, e1, List.replicate_succ', List.append_assoc, List.append_assoc, List.append_assoc, List.set_append_right _ _ (by simp)]
  simp
theorem readD_full (l : List UInt8) (n : Nat) (hl : l.length = n) : readD l n n = pad (dg l) := by
  unfold readD pad
  rw [Nat.sub_self, List.take_of_length_le (by omega), dg_length, hl]
  simp
/-- Twelve numbers, written out. -/
theorem row12 (L : List Int) (h : L.length = 12) : ∃ d0 d1 d2 d3 d4 d5 d6 d7 d8 d9 d10 d11, L = [d0, d1, d2, d3, d4, d5, d6, d7, d8, d9, d10, d11] := by
  match L, h with
  | [d0, d1, d2, d3, d4, d5, d6, d7, d8, d9, d10, d11], _ => exact ⟨_, _, _, _, _, _, _, _, _, _, _, _, rfl⟩
theorem rowC_lit (n d0 d1 d2 d3 d4 d5 d6 d7 d8 d9 d10 d11 : Int) : rowC n [d0, d1, d2, d3, d4, d5, d6, d7, d8, d9, d10, d11] = #[.int .i64 n, .int .i64 d0, .int .i64 d1, .int .i64 d2, .int .i64 d3, .int .i64 d4, .int .i64 d5, .int .i64 d6, .int .i64 d7, .int .i64 d8, .int .i64 d9, .int .i64 d10, .int .i64 d11] := rfl
set_option maxHeartbeats 800000 in
theorem rowOf_any (s : ByteArray) (hok : ok s = true) (w : World) : Calls Tryd.prog 82 #[.string s] w fun e w' => e = .returned (.agg (rowC s.size (pad (dgS s)))) ∧ Below w.heap.size w w' := by
  have ⟨hd, l1, l2⟩ := (ok_iff s).1 hok
  have HD := hidH hd
  clear hok hd
  go_enter Tryd.func82, Tryd.ntmps82
  go_wp2
  go_loopw [10] (fun i wr => ∃ k : Nat, k ≤ s.size ∧ i = .int .i64 k ∧ wr = (w.alloc (.cells #[.int .i64 0, .int .i64 0, .int .i64 0, .int .i64 0, .int .i64 0, .int .i64 0, .int .i64 0, .int .i64 0, .int .i64 0, .int .i64 0, .int .i64 0, .int .i64 0, .int .i64 0] 71)).alloc (.cells (rowC s.size (readD s.data.toList s.size k)) 71)) (fun i _ => s.size - (intOf i).toNat)
  case atStart =>
    refine ⟨0, Nat.zero_le _, rfl, ?_⟩
    have e : readD s.data.toList s.size 0 = [0, 0, 0, 0, 0, 0, 0, 0, 0, 0, 0, 0] := by
      unfold readD
      rw [List.take_zero, show dg [] = [] from rfl, List.append_nil, List.replicate_append_replicate, show s.size - 0 + (12 - s.size) = 12 by omega]
      rfl
    rw [e]
    rfl
  case round =>
    obtain ⟨k, hk, rfl, rfl⟩ := hrel
    by_cases hlt : k < s.size
    · have ⟨b1, b2⟩ := HD.out _ (List.mem_of_getElem? (get_at s k hlt))
      have HG := hidH (get_at s k hlt)
      have hc : ∃ v, (rowC (s.size : Int) (readD s.data.toList s.size k))[1 + (s.size - 1 - k)]? = some v := ⟨_, Array.getElem?_eq_getElem (by rw [rowC_size, readD_length _ _ _ hk (size_len s) l2]; omega)⟩
      obtain ⟨v, hc⟩ := hc
      go_wp2
      go_roundw
      case rel => exact ⟨k + 1, by omega, by go_num, by rw [Nat.add_comm 1, rowC_set, readD_set _ _ _ _ hlt HG.out]⟩
      case measure => simp [intOf]; omega
    · obtain rfl : k = s.size := by omega
      have e1 := readD_full s.data.toList s.size (size_len s)
      have hl := readD_length s.data.toList s.size s.size hk (size_len s) l2
      obtain ⟨d0, d1, d2, d3, d4, d5, d6, d7, d8, d9, d10, d11, e⟩ := row12 _ hl
      rw [e, rowC_lit]
      have HX := hidH (show pad (dgS s) = [d0, d1, d2, d3, d4, d5, d6, d7, d8, d9, d10, d11] by rw [← e, e1]; rfl)
      clear e1 hl e
      go_wp2
      refine bodyPost_ret (v := .agg #[.int .i64 s.size, .int .i64 d0, .int .i64 d1, .int .i64 d2, .int .i64 d3, .int .i64 d4, .int .i64 d5, .int .i64 d6, .int .i64 d7, .int .i64 d8, .int .i64 d9, .int .i64 d10, .int .i64 d11]) ?_ rfl ⟨?_, ?_⟩
      · simp [results, Tryd.results82, go_sem]
      · rw [HX.out, rowC_lit]
      · exact ((Below.refl _ _).alloc (Nat.le_refl _) _).alloc (by simp) _
end Go.Proofs.YtliakbgigkajnaaDoor
namespace Go.Proofs.YtliakbgigkajnaaDoor
set_option maxRecDepth 4000
open Go.RowKit
/-- Block b holds a row of wheels. -/
def RowAt (w : World) (b : Nat) (n : Int) (L : List Int) : Prop := w.heap[b]? = some (.cells (rowC n L) 71 (0, 0))
theorem RowAt.cell {w : World} {b : Nat} {n : Int} {L : List Int} (h : RowAt w b n L) (i : Nat) : w.cell? ⟨b, i, none⟩ = (rowC n L)[i]? := by
  unfold World.cell?
  rw [h]
  rfl
theorem RowAt.width {w : World} {b : Nat} {n : Int} {L : List Int} (h : RowAt w b n L) : w.cell? ⟨b, 0, none⟩ = some (.int .i64 n) := by rw [h.cell, rowC_zero]
theorem RowAt.digit {w : World} {b : Nat} {n : Int} {L : List Int} (h : RowAt w b n L) (i : Nat) (d : Int) (hd : L[i]? = some d) : w.cell? ⟨b, 1 + i, none⟩ = some (.int .i64 d) := by rw [h.cell, Nat.add_comm, rowC_at, hd]; rfl
theorem RowAt.free {w : World} {b : Nat} {n : Int} {L : List Int} (h : RowAt w b n L) (i : Nat) : w.frozen? ⟨b, i, none⟩ = false := by
  unfold World.frozen?
  rw [h]
  rfl
theorem RowAt.lt {w : World} {b : Nat} {n : Int} {L : List Int} (h : RowAt w b n L) : b < w.heap.size := (Array.getElem?_eq_some_iff.1 h).1
theorem RowAt.set {w : World} {b : Nat} {n : Int} {L : List Int} (h : RowAt w b n L) (i : Nat) (d : Int) : RowAt (w.setCell ⟨b, 1 + i, none⟩ (.int .i64 d)) b n (L.set i d) := by
  unfold RowAt at *
  have : (w.setCell ⟨b, 1 + i, none⟩ (.int .i64 d)).heap[b]? = some (.cells ((rowC n L).setIfInBounds (1 + i) (.int .i64 d)) 71 (0, 0)) := by
    simp [World.setCell, Array.getElem?_modify, h]
  rw [this, Nat.add_comm 1 i, rowC_set]
theorem RowAt.setRow {w : World} {b : Nat} {n : Int} {L : List Int} (h : RowAt w b n L) (n' : Int) (L' : List Int) : RowAt (w.setRow b (rowC n' L')) b n' L' := by
  unfold RowAt at *
  simp [World.setRow, Array.getElem?_modify, h]
theorem row_size (n : Int) (L : List Int) (h : L.length = 12) : (Tryd.prog.info? 71).map (·.size) = some (rowC n L).size := by
  rw [rowC_size, h]
  kernel_rfl
theorem row_one (n : Int) (L : List Int) : (rowC n L).all (·.oneCell') = true := by
  simp [rowC, Value.oneCell']
theorem RowAt.setRowOther {w : World} {b : Nat} {n : Int} {L : List Int} (h : RowAt w b n L) (g : Nat) (cs : Array Value) (hg : b ≠ g) : RowAt (w.setRow g cs) b n L := by
  unfold RowAt at *
  rw [setRow_other w g b cs hg]; exact h
theorem Below.setRow2 {B : Nat} {a b : World} (h : Below B a b) (g : Nat) (cs : Array Value) (hg : B ≤ g) : Below B a (b.setRow g cs) :=
  ⟨h.os, h.tape, h.output, by simpa using h.size, fun k hk => by rw [setRow_other b g k cs (by omega)]; exact h.block k hk⟩
theorem Onto.setRow {r : Nat} {a b : World} (h : Onto r a b) (g : Nat) (cs : Array Value) (hg : a.heap.size ≤ g) : Onto r a (b.setRow g cs) :=
  ⟨h.os, h.tape, h.output, by simpa using h.size, fun k hk hr => by rw [setRow_other b g k cs (by omega)]; exact h.block k hk hr⟩
theorem RowAt.other {w : World} {b : Nat} {n : Int} {L : List Int} (h : RowAt w b n L) (c i : Nat) (v : Value) (hc : b ≠ c) : RowAt (w.setCell ⟨c, i, none⟩ v) b n L := by
  unfold RowAt at *
  rw [Below.heap_setCell w ⟨c, i, none⟩ v b hc]; exact h
theorem RowAt.drewN {w : World} {b : Nat} {n : Int} {L : List Int} (h : RowAt w b n L) (q : Nat) : RowAt (w.drewN q) b n L := h
theorem RowAt.alloc {w : World} {b : Nat} {n : Int} {L : List Int} (h : RowAt w b n L) (o : Obj) : RowAt (w.alloc o) b n L := by
  unfold RowAt at *
  rw [Below.heap_alloc w o b (Array.getElem?_eq_some_iff.1 h).1]; exact h
theorem RowAt.fresh (w : World) (n : Int) (L : List Int) : RowAt (w.alloc (.cells (rowC n L) 71)) w.heap.size n L := by
  unfold RowAt
  show (w.heap.push _)[w.heap.size]? = _
  simp
theorem RowAt.onto {w w' : World} {b c : Nat} {n : Int} {L : List Int} (h : RowAt w b n L) (ho : Onto c w w') (hc : b ≠ c) : RowAt w' b n L := by
  unfold RowAt at *
  rw [ho.block b (Array.getElem?_eq_some_iff.1 h).1 hc]; exact h
theorem RowAt.below {w w' : World} {b : Nat} {n : Int} {L : List Int} (h : RowAt w b n L) (ho : Below w.heap.size w w') : RowAt w' b n L := by
  unfold RowAt at *
  rw [ho.block b (Array.getElem?_eq_some_iff.1 h).1]; exact h
/-- The wheels of which the lowest k have been turned. -/
def someT (T A : List Int) (k : Nat) : List Int := T.take k ++ (pad A).drop k
theorem someT_zero (T A : List Int) : someT T A 0 = pad A := rfl
theorem someT_set (T A : List Int) (k : Nat) (x : Int) (hA : A.length ≤ 12) (hk : k < 12) (hT : T[k]? = some x) : (someT T A k).set k x = someT T A (k + 1) := by
  have hl : k < T.length := (List.getElem?_eq_some_iff.1 hT).1
  have e1 : (T.take k).length = k := by rw [List.length_take]; omega
  have hp : k < (pad A).length := by rw [pad_length A hA]; exact hk
  unfold someT
  rw [List.set_append_right _ _ (by omega), e1, Nat.sub_self, List.drop_eq_getElem_cons hp, List.set_cons_zero, take_get T k x hT, List.append_assoc]
  rfl
theorem someT_full (T A : List Int) (n : Nat) (hT : T.length = n) (hA : A.length = n) : someT T A n = pad T := by
  unfold someT pad
  rw [List.take_of_length_le (by omega), List.drop_append, hA, Nat.sub_self, List.drop_zero, List.drop_of_length_le (by omega), hT]
  rfl
theorem turnD_at (A M : List Int) (k : Nat) (a m : Int) (ha : A[k]? = some a) (hm : M[k]? = some m) : (turnD A M)[k]? = some ((a + m) % 10) := by
  rw [turnD_zip, List.getElem?_zipWith, ha, hm]
theorem passD_at (A M : List Int) (k : Nat) (a m : Int) (ha : A[k]? = some a) (hm : M[k]? = some m) : (passD A M)[k]? = some ((a + m) / 10) := by
  rw [passD_zip, List.getElem?_zipWith, ha, hm]
/-- What holds of memory when the lowest k wheels have been turned. -/
structure Turned (w : World) (b n : Nat) (A M : List Int) (k : Nat) (wr : World) : Prop where
  row : RowAt wr b n (someT (turnD A M) A k)
  by_ : RowAt wr w.heap.size n (pad M)
  res : RowAt wr (w.heap.size + 1) 0 (pad [])
  passed : RowAt wr (w.heap.size + 2) n (pad ((passD A M).take k))
  size : wr.heap.size = w.heap.size + 3
  onto : Onto b w wr
theorem Turned.step {w : World} {b n : Nat} {A M : List Int} {k : Nat} {wr : World} (h : Turned w b n A M k wr) (hn : n ≤ 12) (hA : A.length = n) (hM : M.length = n) (hb : b < w.heap.size) (hk : k < n) (a m : Int) (ha : A[k]? = some a) (hm : M[k]? = some m) (q : Nat) :
    Turned w b n A M (k + 1) (((wr.drewN q).setCell ⟨b, 1 + k, none⟩ (.int .i64 ((a + m) % 10))).setCell ⟨w.heap.size + 1 + 1, 1 + k, none⟩ (.int .i64 ((a + m) / 10))) := by
  have e0 := passD_at A M k a m ha hm
  have e1 := take_get _ _ _ e0
  have el : ((passD A M).take k).length = k := by rw [List.length_take, passD_length _ _ (by omega), hA]; omega
  have e2 : (pad ((passD A M).take k)).set k ((a + m) / 10) = pad ((passD A M).take (k + 1)) := by
    have := pad_set ((passD A M).take k) ((a + m) / 10) (by omega)
    rw [el] at this
    rw [this, e1]
  refine ⟨?_, ?_, ?_, ?_, ?_, ?_⟩
  · rw [← someT_set _ A k _ (by omega) (by omega) (turnD_at A M k a m ha hm)]
    exact ((h.row.drewN q).set k _).other _ _ _ (by omega)
  · exact ((h.by_.drewN q).other _ _ _ (by omega)).other _ _ _ (by omega)
  · exact ((h.res.drewN q).other _ _ _ (by omega)).other _ _ _ (by omega)
  · rw [← e2]
    exact ((h.passed.drewN q).other _ _ _ (by omega)).set k _
  · have := h.size
    simpa [World.setCell] using this
  · refine ⟨h.onto.os, h.onto.tape, h.onto.output, ?_, fun j hj hjb => ?_⟩
    · have := h.size
      simp [World.setCell]
      omega
    · rw [Below.heap_setCell _ _ _ j (by show j ≠ w.heap.size + 1 + 1; omega), Below.heap_setCell _ _ _ j hjb]
      exact h.onto.block j hj hjb
set_option maxHeartbeats 1600000 in
theorem turn_any (b n : Nat) (A M : List Int) (hn : n ≤ 12) (hA : A.length = n) (hM : M.length = n) (dA : digs A) (dM : digs M) (w : World) (hR : RowAt w b n (pad A)) :
    Calls Tryd.prog 83 #[.pointer (some ⟨b, 0, none⟩), .agg (rowC n (pad M))] w fun e w' => e = .returned (.agg (rowC n (pad (passD A M)))) ∧ RowAt w' b n (pad (turnD A M)) ∧ Onto b w w' := by
  have hlt := hR.lt
  have hw1 : ∀ X, (w.alloc X).cell? ⟨b, 0, none⟩ = some (.int .i64 n) := fun X => (hR.alloc X).width
  have hw2 : ∀ X Y, ((w.alloc X).alloc Y).cell? ⟨b, 0, none⟩ = some (.int .i64 n) := fun X Y => ((hR.alloc X).alloc Y).width
  have hw3 : ∀ X Y Z, (((w.alloc X).alloc Y).alloc Z).cell? ⟨b, 0, none⟩ = some (.int .i64 n) := fun X Y Z => (((hR.alloc X).alloc Y).alloc Z).width
  have LA := hidH hA
  have LM := hidH hM
  have HR := hidH hR
  have DA := hidH dA
  have DM := hidH dM
  clear hR hA hM dA dM
  obtain ⟨m0, m1, m2, m3, m4, m5, m6, m7, m8, m9, m10, m11, e⟩ := row12 (pad M) (pad_length _ (by rw [LM.out]; exact hn))
  have HE := hidH e
  rw [e, rowC_lit]
  clear e
  go_enter Tryd.func83, Tryd.ntmps83
  go_wp2
  clear hw1 hw2 hw3
  go_loopw [17] (fun i wr => ∃ k : Nat, k ≤ n ∧ i = .int .i64 k ∧ Turned w b n A M k wr) (fun i _ => n - (intOf i).toNat)
  case atStart =>
    refine ⟨0, Nat.zero_le _, rfl, ?_⟩
    rw [← rowC_lit, ← HE.out, ← rowC_start, ← rowC_start]
    have hne : b ≠ w.heap.size := by omega
    refine ⟨((HR.out.alloc _).alloc _).alloc _, ((RowAt.fresh w n (pad M)).alloc _).alloc _, ?_, ?_, by simp, (((Onto.refl _ _).alloc _).alloc _).alloc _⟩
    · have := (RowAt.fresh (w.alloc (.cells (rowC n (pad M)) 71)) 0 (pad [])).alloc (.cells (rowC n (pad [])) 71)
      simpa using this
    · have := RowAt.fresh ((w.alloc (.cells (rowC n (pad M)) 71)).alloc (.cells (rowC 0 (pad [])) 71)) n (pad [])
      simpa using this
  case round =>
    obtain ⟨k, hk, rfl, hT⟩ := hrel
    have HT := hidH hT
    clear hT
    by_cases hlk : k < n
    · obtain ⟨a, ha⟩ : ∃ a, A[k]? = some a := ⟨_, List.getElem?_eq_getElem (by rw [LA.out]; exact hlk)⟩
      obtain ⟨m, hm⟩ : ∃ m, M[k]? = some m := ⟨_, List.getElem?_eq_getElem (by rw [LM.out]; exact hlk)⟩
      have ⟨a1, a2⟩ := DA.out a (List.mem_of_getElem? ha)
      have ⟨b1, b2⟩ := DM.out m (List.mem_of_getElem? hm)
      have HA := hidH ha
      have HM := hidH hm
      clear ha hm
      have c0 : wr.cell? ⟨b, 1 + k, none⟩ = some (.int .i64 a) := HT.out.row.digit k a (by
        unfold someT
        have e1 : ((turnD A M).take k).length = k := by rw [List.length_take, turnD_length _ _ (by rw [LA.out, LM.out]), LA.out]; omega
        rw [List.getElem?_append_right (by omega), e1, Nat.sub_self, List.getElem?_drop, Nat.add_zero, pad_at A k (by rw [LA.out]; exact hlk), HA.out])
      have f0 : wr.frozen? ⟨b, 1 + k, none⟩ = false := HT.out.row.free _
      have c1 : wr.cell? ⟨w.heap.size, 1 + k, none⟩ = some (.int .i64 m) := HT.out.by_.digit k m (by rw [pad_at M k (by rw [LM.out]; exact hlk), HM.out])
      have hz : (pad ((passD A M).take k))[k]? = some 0 := by
        have e1 : ((passD A M).take k).length = k := by rw [List.length_take, passD_length _ _ (by rw [LA.out, LM.out]), LA.out]; omega
        exact pad_out _ _ (by omega) (by omega)
      have c2 : ∀ q v, ((wr.drewN q).setCell ⟨b, 1 + k, none⟩ v).cell? ⟨w.heap.size + 2, 1 + k, none⟩ = some (.int .i64 0) := fun q v => ((HT.out.passed.drewN q).other b (1 + k) v (by omega)).digit k 0 hz
      have f2 : ∀ q v, ((wr.drewN q).setCell ⟨b, 1 + k, none⟩ v).frozen? ⟨w.heap.size + 2, 1 + k, none⟩ = false := fun q v => ((HT.out.passed.drewN q).other b (1 + k) v (by omega)).free _
      clear hz
      have h12 : k < 12 := by omega
      have h12' : (k : Int) < 12 := by omega
      have hs : IntKind.i64.wrap (a + m) = a + m := IntWalk.i64_in _ (by omega)
      have hs0 : 0 ≤ a + m := by omega
      go_wp2
      go_quiet (fail)
      clear hs
      go_wp2
      go_roundw
      case rel => exact ⟨k + 1, by omega, by go_num, HT.out.step hn LA.out LM.out hlt hlk a m HA.out HM.out nq⟩
      case measure => simp [intOf]; omega
    · obtain rfl : k = n := by omega
      have l1 : (pad ((passD A M).take k)).length = 12 := pad_length _ (by rw [List.length_take]; omega)
      have SL := hidH (row_size k _ l1)
      have SE := hidH (show (rowC 0 (pad [])).size = (rowC k (pad ((passD A M).take k))).size by rw [rowC_size, rowC_size, l1]; rfl)
      have SO := hidH (row_one k (pad ((passD A M).take k)))
      have HS := hidH (RowAt.setRow HT.out.res k (pad ((passD A M).take k)))
      have PF : Hid ((passD A M).take k = passD A M) := List.take_of_length_le (by rw [passD_length _ _ (by rw [LA.out, LM.out]), LA.out]; exact Nat.le_refl _)
      have TF := hidH (someT_full (turnD A M) A k (by rw [turnD_length _ _ (by rw [LA.out, LM.out]), LA.out]) LA.out)
      clear l1
      go_wp2_with (first
        | (refine wpList_load_row rfl 71 _ rfl (w.heap.size + 2) rfl 71 _ (0, 0) _ HT.out.passed Tryd.underlying71 rfl SL.out ?_)
        | (refine wpList_store_row rfl 71 _ _ rfl (w.heap.size + 1) _ rfl rfl 71 _ HT.out.res SL.out SE.out SO.out ?_))
      refine bodyPost_ret (v := .agg (rowC k (pad ((passD A M).take k)))) ?_ rfl ⟨?_, ?_, ?_⟩
      · exact results_cell_row Tryd.results83 _ _ (w.heap.size + 1) 71 _ (0, 0) _ rfl HS.out Tryd.underlying71 rfl SL.out
      · rw [PF.out]
      · rw [← TF.out]
        exact HT.out.row.setRowOther _ _ (by omega)
      · exact HT.out.onto.setRow _ _ (by omega)
end Go.Proofs.YtliakbgigkajnaaDoor
namespace Go.Proofs.YtliakbgigkajnaaDoor
set_option maxRecDepth 4000
open Go.RowKit
/-- What holds of memory when carries have been made up to wheel k. -/
structure Carried (w : World) (b n : Nat) (A M : List Int) (k : Nat) (wr : World) : Prop where
  row : RowAt wr b n (someT (aheadD 0 A M) A k)
  by_ : RowAt wr w.heap.size n (pad M)
  onto : Onto b w wr
set_option maxHeartbeats 1600000 in
theorem ahead_any (b n : Nat) (A M : List Int) (hn : n ≤ 12) (hA : A.length = n) (hM : M.length = n) (dA : digs A) (dM : flags M) (w : World) (hR : RowAt w b n (pad A)) :
    Calls Tryd.prog 69 #[.pointer (some ⟨b, 0, none⟩), .agg (rowC n (pad M))] w fun e w' => e = .returned (.tuple #[]) ∧ RowAt w' b n (pad (aheadD 0 A M)) ∧ Onto b w w' := by
  have hlt := hR.lt
  have hw1 : ∀ X, (w.alloc X).cell? ⟨b, 0, none⟩ = some (.int .i64 n) := fun X => (hR.alloc X).width
  have LA := hidH hA
  have LM := hidH hM
  have HR := hidH hR
  have DA := hidH dA
  have DM := hidH dM
  clear hR hA hM dA dM
  go_enter Tryd.func69, Tryd.ntmps69
  go_wp2
  clear hw1
  go_loopw [4, 11] (fun mv i wr => ∃ k : Nat, k ≤ n ∧ i = .int .i64 k ∧ mv = .int .i64 (cr 0 A M k) ∧ Carried w b n A M k wr) (fun _ i _ => n - (intOf i).toNat)
  case atStart =>
    refine ⟨0, Nat.zero_le _, rfl, by cases A <;> cases M <;> rfl, (HR.out.alloc _), RowAt.fresh w n (pad M), (Onto.refl _ _).alloc _⟩
  case round =>
    obtain ⟨k, hk, rfl, rfl, hT⟩ := hrel
    have HT := hidH hT
    clear hT
    by_cases hlk : k < n
    · obtain ⟨a, ha⟩ : ∃ a, A[k]? = some a := ⟨_, List.getElem?_eq_getElem (by rw [LA.out]; exact hlk)⟩
      obtain ⟨m, hm⟩ : ∃ m, M[k]? = some m := ⟨_, List.getElem?_eq_getElem (by rw [LM.out]; exact hlk)⟩
      have ⟨a1, a2⟩ := DA.out a (List.mem_of_getElem? ha)
      have ⟨b1, b2⟩ := DM.out m (List.mem_of_getElem? hm)
      have ⟨c1, c2⟩ := cr_bd A M DA.out DM.out (by rw [LA.out, LM.out]) k (by rw [LA.out]; omega)
      have HS := hidH (cr_step 0 A M k a m ha hm)
      have HX := hidH (ahead_at 0 A M k a m ha hm)
      have HA := hidH ha
      have HM := hidH hm
      clear ha hm
      generalize cr 0 A M k = c at *
      have q0 : wr.cell? ⟨b, 1 + k, none⟩ = some (.int .i64 a) := HT.out.row.digit k a (by
        unfold someT
        have e1 : ((aheadD 0 A M).take k).length = k := by rw [List.length_take, aheadD_length _ _ _ (by rw [LA.out, LM.out]), LA.out]; omega
        rw [List.getElem?_append_right (by omega), e1, Nat.sub_self, List.getElem?_drop, Nat.add_zero, pad_at A k (by rw [LA.out]; exact hlk), HA.out])
      have f0 : wr.frozen? ⟨b, 1 + k, none⟩ = false := HT.out.row.free _
      have q1 : ∀ v, (wr.setCell ⟨b, 1 + k, none⟩ v).cell? ⟨w.heap.size, 1 + k, none⟩ = some (.int .i64 m) := fun v => (HT.out.by_.other b (1 + k) v (by omega)).digit k m (by rw [pad_at M k (by rw [LM.out]; exact hlk), HM.out])
      have h12 : k < 12 := by omega
      have h12' : (k : Int) < 12 := by omega
      have hs0 : 0 ≤ a + c := by omega
      go_wp2
      go_roundw
      case rel =>
        refine ⟨k + 1, by omega, by go_num, by rw [HS.out], ?_, HT.out.by_.other _ _ _ (by omega), HT.out.onto.trans (Onto.setCell b _ _ _)⟩
        rw [← someT_set _ A k _ (by rw [LA.out]; exact hn) h12 HX.out]
        exact HT.out.row.set k _
      case measure => simp [intOf]; omega
    · obtain rfl : k = n := by omega
      have TF := hidH (someT_full (aheadD 0 A M) A k (by rw [aheadD_length _ _ _ (by rw [LA.out, LM.out]), LA.out]) LA.out)
      go_wp2
      go_end0
      exact ⟨rfl, by rw [← TF.out]; exact HT.out.row, HT.out.onto⟩
end Go.Proofs.YtliakbgigkajnaaDoor
namespace Go.Proofs.YtliakbgigkajnaaDoor
set_option maxRecDepth 4000
open Go.RowKit
theorem items_zero (d : Nat) (A : List Int) (w : World) : ∀ (is : List Nat), (∀ i ∈ is, i < A.length) →
    (Op.eqItems (d + 1) 3 (Tryd.prog.cellsOf 3) (A.map (Value.int .i64)).toArray (List.replicate A.length (Value.int .i64 0)).toArray is).run Tryd.prog w = .ok (is.all fun i => A.getD i 0 == 0) w := by
  have hk : Tryd.prog.plainKey 3 = true := by kernel_rfl
  have hc : Tryd.prog.cellsOf 3 = 1 := by kernel_rfl
  rw [hc]
  intro is
  induction is with
  | nil => intro _; rfl
  | cons i is ih =>
    intro h
    have hi := h i (by simp)
    have e1 : (A.map (Value.int .i64)).toArray[i * 1]? = some (.int .i64 (A.getD i 0)) := by
      simp [List.getD, List.getElem?_eq_getElem hi]
    have e2 : (List.replicate A.length (Value.int .i64 0)).toArray[i * 1]? = some (.int .i64 0) := by
      simp [hi]
    have ih' := ih fun j hj => h j (by simp [hj])
    simp only [Op.eqItems, Sem.run_bind]
    rw [run_part_plain w hk e1]
    simp only [Result.andThen_ok]
    rw [run_part_plain w hk e2]
    simp only [Result.andThen_ok]
    rw [run_equalIn_int w d 3 .i64 .i64 _ _ Tryd.underlying3]
    simp only [Result.andThen_ok]
    cases hb : (A.getD i 0 == 0)
    · simp only [Bool.not_false, if_true, Sem.run_pure, List.all_cons, hb, Bool.false_and]
    · simp only [Bool.not_true, Bool.false_eq_true, if_false, List.all_cons, hb, Bool.true_and]
      exact ih'
theorem eq12 (w : World) (p0 p1 p2 p3 p4 p5 p6 p7 p8 p9 p10 p11 : Int) :
    (Op.equalIn 10000 69 (.agg #[.int .i64 p0, .int .i64 p1, .int .i64 p2, .int .i64 p3, .int .i64 p4, .int .i64 p5, .int .i64 p6, .int .i64 p7, .int .i64 p8, .int .i64 p9, .int .i64 p10, .int .i64 p11]) (.agg #[.int .i64 0, .int .i64 0, .int .i64 0, .int .i64 0, .int .i64 0, .int .i64 0, .int .i64 0, .int .i64 0, .int .i64 0, .int .i64 0, .int .i64 0, .int .i64 0])).run Tryd.prog w = .ok ([p0, p1, p2, p3, p4, p5, p6, p7, p8, p9, p10, p11].all (· == 0)) w := by
  have hinfo : ∃ i, Tryd.prog.info? 3 = some i := by
    have h : (Tryd.prog.info? 3).isSome = true := by kernel_rfl
    exact Option.isSome_iff_exists.1 h
  obtain ⟨i, hi⟩ := hinfo
  have h1 := run_equalIn_array w 9999 (([p0, p1, p2, p3, p4, p5, p6, p7, p8, p9, p10, p11] : List Int).map (Value.int .i64)).toArray (List.replicate 12 (Value.int .i64 0)).toArray Tryd.underlying69 hi
  have h2 := items_zero 9998 [p0, p1, p2, p3, p4, p5, p6, p7, p8, p9, p10, p11] w (List.range 12) (fun i hi => by simpa using hi)
  exact h1.trans h2
end Go.Proofs.YtliakbgigkajnaaDoor
namespace Go.Proofs.YtliakbgigkajnaaDoor
set_option maxRecDepth 4000
open Go.RowKit
/-- The marks moved up by one wheel, as copy moves them. -/
theorem up_cells (n : Nat) (M : List Int) (hn1 : 1 ≤ n) (hn : n ≤ 12) (hM : M.length = n) : ((rowC n (pad [])).toList.take 2 ++ (M.take (n - 1)).map (Value.int .i64) ++ (rowC n (pad [])).toList.drop (2 + ((M.take (n - 1)).map (Value.int .i64)).length)).toArray = rowC n (pad (upD M)) := by
  obtain ⟨m, rfl⟩ : ∃ m, n = m + 1 := ⟨n - 1, by omega⟩
  have l1 : (M.take m).length = m := by rw [List.length_take]; omega
  have e0 : upD M = 0 :: M.take m := by unfold upD; rw [hM]; rfl
  have ez : pad [] = List.replicate 12 0 := rfl
  rw [e0, ez]
  unfold rowC pad
  rw [Nat.add_sub_cancel, List.length_map, l1]
  apply congrArg List.toArray
  rw [show List.replicate 12 (0 : Int) = 0 :: List.replicate 11 0 from rfl, List.length_cons, l1]
  rw [List.map_cons, List.take_succ_cons, List.take_succ_cons, List.take_zero, Nat.add_comm 2 m, List.drop_succ_cons, List.drop_succ_cons]
  simp only [List.map_append, List.map_cons, List.map_replicate, List.cons_append, List.nil_append, List.drop_replicate]
  rw [show 11 - m = 12 - (m + 1) by omega]
theorem copy_up (W : World) (h n : Nat) (M : List Int) (hn1 : 1 ≤ n) (hn : n ≤ 12) (hM : M.length = n) (rM : RowAt W h n (pad M)) (rP : RowAt W (h + 2) n (pad [])) :
    (Builtin.copy_ #[33, 33] 3 #[.slice (some ⟨h + 2, 2, none⟩) (n - 1) 11, .slice (some ⟨h, 1, none⟩) 12 12]).run Tryd.prog W.drew = .ok (goInt (n - 1 : Nat)) (W.drew.setRow (h + 2) (rowC n (pad (upD M)))) := by
  have l0 : (M.take (n - 1)).length = n - 1 := by rw [List.length_take]; omega
  have hr := run_copy_row (P := Tryd.prog) W.drew 33 33 3 3 (h + 2) 2 (n - 1) 11 ⟨h, 1, none⟩ 12 12 (rowC n (pad [])) 71 ((M.take (n - 1)).map (Value.int .i64)) Tryd.underlying33 (by kernel_rfl) rP (by rw [List.length_map, l0]; exact (Nat.min_eq_right (by omega : n - 1 ≤ 12)).symm) ?_ (by rw [List.length_map, l0, rowC_size]; show 2 + (n - 1) ≤ 12 + 1; omega) (fun v hv => by obtain ⟨x, _, rfl⟩ := List.mem_map.1 hv; rfl)
  · rw [up_cells n M hn1 hn hM, List.length_map, l0] at hr
    exact hr
  · intro j v hj
    rw [List.getElem?_map] at hj
    have hjl : j < (M.take (n - 1)).length := by
      cases e : (M.take (n - 1))[j]? with
      | none => rw [e] at hj; simp at hj
      | some x => exact (List.getElem?_eq_some_iff.1 e).1
    have hx : (M.take (n - 1))[j]? = M[j]? := by rw [List.getElem?_take, if_pos (by omega)]
    rw [hx, List.getElem?_eq_getElem (by omega)] at hj
    have ea : (⟨h, 1, none⟩ : Addr).add j = ⟨h, 1 + j, none⟩ := by simp [Addr.add]
    rw [ea]
    have := rM.digit j (M[j]'(by omega)) (by rw [pad_at M j (by omega), List.getElem?_eq_getElem (by omega)])
    simp only [Option.map_some, Option.some.injEq] at hj
    rw [← hj]
    exact this
/-- A slice of the wheels above the lowest one. -/
theorem slice_up (W : World) (h n : Nat) (hn1 : 1 ≤ n) (hn : n ≤ 12) : (Instr.sliceAt 69 (.pointer (some ⟨h, 1, none⟩)) (some (.int .i64 1)) (some (.int .i64 n)) none).run Tryd.prog W = .ok (.slice (some ⟨h, 2, none⟩) (n - 1) 11) W := by
  have ha : Tryd.prog.arrayLen 69 = 12 := by kernel_rfl
  have he : Tryd.prog.elem 69 = 3 := by kernel_rfl
  rw [run_sliceAt_array_lh W 69 ⟨h, 1, none⟩ Tryd.underlying69 .i64 .i64 1 n (by decide) (by omega) (by rw [ha]; omega), ha, he, Tryd.sizeOf3 W]
  simp [Result.andThen, slicedAt, Addr.add]
end Go.Proofs.YtliakbgigkajnaaDoor
namespace Go.Proofs.YtliakbgigkajnaaDoor
set_option maxRecDepth 4000
open Go.RowKit
theorem pad_zero (M : List Int) (hM : digs M) : (pad M).all (· == 0) = decide (num M = 0) := by
  rw [Bool.eq_iff_iff, decide_eq_true_eq, List.all_eq_true]
  constructor
  · intro h
    have hz : ∀ d ∈ M, d = 0 := fun d hd => by
      have := h d (by unfold pad; exact List.mem_append_left _ hd)
      simpa using this
    exact lowZ_num M fun j d _ hj => hz d (List.mem_of_getElem? hj)
  · intro h d hd
    unfold pad at hd
    rcases List.mem_append.1 hd with hd | hd
    · simpa using num_zero M hM h d hd
    · simpa using (List.mem_replicate.1 hd).2
/-- What holds of memory and of the numbers after k times of carries. -/
structure Rounds (w : World) (b n : Nat) (A M : List Int) (k : Nat) (wr : World) (A' M' : List Int) : Prop where
  le : k ≤ n
  low : lowZ k M'
  lenA : A'.length = n
  lenM : M'.length = n
  digA : digs A'
  flagM : flags M'
  fin : (allD (n - k) A' M').1 = (allD n A M).1
  cnt : k + (allD (n - k) A' M').2 = (allD n A M).2
  row : RowAt wr b n (pad A')
  mark : RowAt wr w.heap.size n (pad M')
  onto : Onto b w wr
theorem Rounds.next {w : World} {b n : Nat} {A M : List Int} {k : Nat} {wr : World} {A' M' : List Int} (h : Rounds w b n A M k wr A' M') (hz : num M' ≠ 0) (hlt : b < w.heap.size) {w' : World}
    (hr : RowAt w' b n (pad (turnD A' (upD M')))) (ho : Onto b wr w') :
    k < n ∧ Rounds w b n A M (k + 1) (w'.setRow w.heap.size (rowC n (pad (passD A' (upD M'))))) (turnD A' (upD M')) (passD A' (upD M')) := by
  have hk : k < n := by
    have := h.le
    by_cases e : k = n
    · subst e
      exact absurd (lowZ_num M' (by rw [h.lenM]; exact h.low)) hz
    · omega
  have ul : (upD M').length = n := by rw [upD_length, h.lenM]
  have ud : digs (upD M') := upD_digs M' (flags_digs h.flagM)
  obtain ⟨f, hf⟩ : ∃ f, n - k = f + 1 := ⟨n - k - 1, by omega⟩
  have e1 : n - (k + 1) = f := by omega
  have hg := allD_go f A' M' hz
  have hfin := h.fin
  have hcnt := h.cnt
  rw [hf, hg] at hfin hcnt
  simp only at hfin hcnt
  refine ⟨hk, ⟨by omega, ?_, ?_, ?_, turnD_digs _ _, passD_flags _ _ h.digA ud, by rw [e1]; exact hfin, by rw [e1]; omega, ?_, ?_, ?_⟩⟩
  · exact lowZ_pass k A' M' h.digA (by rw [h.lenA, h.lenM]) h.low
  · rw [turnD_length _ _ (by rw [h.lenA, ul]), h.lenA]
  · rw [passD_length _ _ (by rw [h.lenA, ul]), h.lenA]
  · exact hr.setRowOther _ _ (by omega)
  · exact RowAt.setRow (h.mark.onto ho (by omega)) n _
  · exact (h.onto.trans ho).setRow _ _ (by omega)
end Go.Proofs.YtliakbgigkajnaaDoor
namespace Go.Proofs.YtliakbgigkajnaaDoor
set_option maxRecDepth 4000
open Go.RowKit
theorem h_colValid (s : ByteArray) (hs : s.size ≤ 9223372036854775807) (h : ok s = true) (w : World) : Calls Tryd.prog 34 #[.string s] w fun e w' => e = .returned (.bool true) ∧ Below w.heap.size w w' := h ▸ colValid_any s hs w
theorem h_colNot (s : ByteArray) (hs : s.size ≤ 9223372036854775807) (h : ok s = false) (w : World) : Calls Tryd.prog 34 #[.string s] w fun e w' => e = .returned (.bool false) ∧ Below w.heap.size w w' := h ▸ colValid_any s hs w
/-- A whole row loaded, as one step of a statement whose order is open. -/
theorem step_load_row {P : Program} {ops : Array Oper} {o : Oper} {a : Act} {w : World} {K : Act → World → Prop} {Q : Exit → Act → World → Prop} {E : Prop} (hgd : o.guard = none) (ty : TypeId) (x : Operand) (ho : o.op = .load ty x)
    (g : Nat) (hx : a.eval x = .pointer (some ⟨g, 0, none⟩)) (t : TypeId) (cs : Array Value) (fr : Nat × Nat) (d : TypeDesc) (hg : w.heap[g]? = some (.cells cs t fr))
    (hu : P.underlying ty = some d) (hd : (match d with | .struct _ | .array _ _ => true | _ => false) = true) (hi : (P.info? ty).map (·.size) = some cs.size)
    (h : K (a.put o.dst (.agg cs)) w) : if Region.wanted o (yielded ops a.tmps) = true then Oper.wp P o a w K Q else E := by
  have hw : Region.wanted o (yielded ops a.tmps) = true := by simp [Region.wanted, hgd]
  rw [if_pos hw]
  exact wp_load_row ty x ho g hx t cs fr d hg hu hd hi h
/-- A whole row stored, likewise. -/
theorem step_store_row {P : Program} {ops : Array Oper} {o : Oper} {a : Act} {w : World} {K : Act → World → Prop} {Q : Exit → Act → World → Prop} {E : Prop} (hgd : o.guard = none) (ty : TypeId) (x y : Operand) (ho : o.op = .store ty x y)
    (g : Nat) (cells : Array Value) (hx : a.eval x = .pointer (some ⟨g, 0, none⟩)) (hy : a.eval y = .agg cells)
    (t : TypeId) (old : Array Value) (hg : w.heap[g]? = some (.cells old t (0, 0))) (hi : (P.info? ty).map (·.size) = some cells.size)
    (hold : old.size = cells.size) (h1 : cells.all (·.oneCell') = true)
    (h : K (a.put o.dst undef) (w.setRow g cells)) : if Region.wanted o (yielded ops a.tmps) = true then Oper.wp P o a w K Q else E := by
  have hw : Region.wanted o (yielded ops a.tmps) = true := by simp [Region.wanted, hgd]
  rw [if_pos hw]
  exact wp_store_row ty x y ho g cells hx hy t old hg hi hold h1 h
/-- Three results, two of them rows in memory. -/
theorem results_rows {P : Program} {fn : Func} {p q r : Tmp} {ty : TypeId} (h : fn.results = #[.cell p ty, .cell q ty, .tmp r]) (tmps : Array Value) (w : World) (g1 g2 : Nat) (t : TypeId) (c1 c2 : Array Value) (fr : Nat × Nat) (d : TypeDesc) (v : Value)
    (hp : tmps.getD p undef = .pointer (some ⟨g1, 0, none⟩)) (hq : tmps.getD q undef = .pointer (some ⟨g2, 0, none⟩)) (hr : tmps.getD r undef = v) (h1 : w.heap[g1]? = some (.cells c1 t fr)) (h2 : w.heap[g2]? = some (.cells c2 t fr))
    (hu : P.underlying ty = some d) (hd : (match d with | .struct _ | .array _ _ => true | _ => false) = true) (hi1 : (P.info? ty).map (·.size) = some c1.size) (hi2 : (P.info? ty).map (·.size) = some c2.size) :
    (results fn tmps).run P w = .ok (.tuple #[.agg c1, .agg c2, v]) w := by
  have hp' : tmps[p]?.getD undef = .pointer (some ⟨g1, 0, none⟩) := by simpa using hp
  have hq' : tmps[q]?.getD undef = .pointer (some ⟨g2, 0, none⟩) := by simpa using hq
  have hr' : tmps[r]?.getD undef = v := by simpa using hr
  simp [results, h, hp', hq', hr', asAddr, run_loadVar_row w g1 t ty c1 fr d h1 hu hd hi1, run_loadVar_row w g2 t ty c2 fr d h2 hu hd hi2]
/-- Two columns of the same width. -/
def pair (a b : ByteArray) : Bool := ok a && ok b && decide (a.size = b.size)
theorem pair_iff (a b : ByteArray) : pair a b = true ↔ ok a = true ∧ ok b = true ∧ a.size = b.size := by
  unfold pair
  rw [Bool.and_eq_true, Bool.and_eq_true, decide_eq_true_eq, and_assoc]
theorem dgS_facts (s : ByteArray) (h : ok s = true) : digs (dgS s) ∧ (dgS s).length = s.size := by
  have ⟨hd, _, _⟩ := (ok_iff s).1 h
  exact ⟨dg_digs _ hd, by rw [dgS, dg_length, size_len]⟩
/-- The rows that a function returns. -/
def rows2 (n : Int) (A B : List Int) (r : Bool) : Value := .tuple #[.agg (rowC n A), .agg (rowC n B), .bool r]
/-- A new row, filled. -/
theorem RowAt.filled (w : World) (n : Int) (L : List Int) : RowAt ((w.alloc (.cells (rowC 0 (pad [])) 71)).setRow w.heap.size (rowC n L)) w.heap.size n L := RowAt.setRow (RowAt.fresh w 0 (pad [])) n L
theorem Below.filled {B : Nat} {a w : World} (h : Below B a w) (hB : B ≤ w.heap.size) (o : Obj) (g : Nat) (cs : Array Value) (hg : B ≤ g) : Below B a ((w.alloc o).setRow g cs) :=
  Below.setRow2 (h.alloc hB o) g cs hg
theorem zero_size (n : Int) (L : List Int) (h : L.length = 12) : (rowC 0 (pad [])).size = (rowC n L).size := by rw [rowC_size, rowC_size, h]; rfl
set_option maxHeartbeats 4000000 in
set_option maxRecDepth 100000 in
theorem turned_yes (a b : ByteArray) (ha : ok a = true) (hb : ok b = true) (hab : a.size = b.size) (w : World) (hsa : a.size ≤ 9223372036854775807) (hsb : b.size ≤ 9223372036854775807) :
    Calls Tryd.prog 68 #[.string a, .string b] w fun e w' => e = .returned (rows2 a.size (pad (turnD (dgS a) (dgS b))) (pad (passD (dgS a) (dgS b))) true) ∧ Below w.heap.size w w' := by
  have VA := hidH fun w => h_colValid a hsa ha w
  have VB := hidH fun w => h_colValid b hsb hb w
  have RA := hidH fun w => rowOf_any a ha w
  have RB := hidH fun w => rowOf_any b hb w
  rw [← hab] at RB
  have ⟨da, la⟩ := dgS_facts a ha
  have ⟨db, lb⟩ := dgS_facts b hb
  have ⟨_, _, l12⟩ := (ok_iff a).1 ha
  have DA := hidH da
  have DB := hidH db
  have LA := hidH la
  have LB := hidH (lb.trans hab.symm)
  have hne : ((a.size : Int) != (b.size : Int)) = false := by rw [hab]; simp
  have HAB := hidH hab
  clear ha hb da db la lb hab
  go_enter Tryd.func68, Tryd.ntmps68
  go_wp2_with fail
  refine (VA.out _).mono ?_; rintro e w1 ⟨rfl, hb1⟩
  go_wp2_with fail
  refine (VB.out _).mono ?_; rintro e w2 ⟨rfl, hb2⟩
  rw [← rowC_start] at hb1
  have zA : RowAt w2 w.heap.size 0 (pad []) := RowAt.below (RowAt.below ((RowAt.fresh w 0 (pad [])).alloc _) hb1) hb2
  have zB : RowAt w2 (w.heap.size + 1) 0 (pad []) := by
    have h := RowAt.fresh (w.alloc (.cells (rowC 0 (pad [])) 71)) 0 (pad [])
    have e : (w.alloc (.cells (rowC 0 (pad [])) 71)).heap.size = w.heap.size + 1 := by simp
    rw [e] at h
    exact RowAt.below (RowAt.below h hb1) hb2
  have bW : Below w.heap.size w w2 := (((Below.refl _ _).alloc (Nat.le_refl _) _).alloc (by simp) _).trans ((hb1.mono (by simp; omega)).trans (hb2.mono (by have := hb1.size; simp at this; omega)))
  have sz2 : w.heap.size + 2 ≤ w2.heap.size := by have := hb1.size; have := hb2.size; simp at *; omega
  have ZA := hidH zA
  have ZB := hidH zB
  have BW := hidH bW
  clear hb1 hb2 zA zB bW
  have l1 : (pad (dgS a)).length = 12 := pad_length _ (by rw [LA.out]; exact l12)
  have S1 := hidH (row_size (a.size : Int) _ l1)
  have E1 := hidH (zero_size (a.size : Int) _ l1)
  have N1 := hidH (row_one (a.size : Int) (pad (dgS a)))
  clear l1
  go_wp2_with fail
  refine (RA.out _).mono ?_; rintro e w3 ⟨rfl, hb3⟩
  have zA := RowAt.below ZA.out hb3
  have zB := RowAt.below ZB.out hb3
  have bW := BW.out.trans (hb3.mono (by omega))
  have sz3 := Nat.le_trans sz2 hb3.size
  have fr := RowAt.fresh w3 0 (pad [])
  have ZA3 := hidH zA
  have ZB3 := hidH zB
  have BW3 := hidH bW
  have FR := hidH fr
  clear hb3 zA zB bW ZA ZB BW fr sz2
  go_wp2_with (refine wpList_store_row rfl 71 _ _ rfl w3.heap.size _ rfl rfl 71 _ FR.out S1.out E1.out N1.out ?_)
  rw [← rowC_start]
  have fA := (ZA3.out.alloc (.cells (rowC 0 (pad [])) 71)).setRowOther w3.heap.size (rowC a.size (pad (dgS a))) (by omega)
  have fB := (ZB3.out.alloc (.cells (rowC 0 (pad [])) 71)).setRowOther w3.heap.size (rowC a.size (pad (dgS a))) (by omega)
  have fR := RowAt.filled w3 a.size (pad (dgS a))
  have fW := Below.filled BW3.out (by omega) (.cells (rowC 0 (pad [])) 71) w3.heap.size (rowC a.size (pad (dgS a))) (by omega)
  have fs : ((w3.alloc (.cells (rowC 0 (pad [])) 71)).setRow w3.heap.size (rowC a.size (pad (dgS a)))).heap.size = w3.heap.size + 1 := by simp
  generalize (w3.alloc (.cells (rowC 0 (pad [])) 71)).setRow w3.heap.size (rowC a.size (pad (dgS a))) = V3 at *
  clear FR ZA3 ZB3 BW3
  refine (RB.out V3).mono ?_; rintro e w4 ⟨rfl, hb4⟩
  have FA := hidH (RowAt.below fA hb4)
  have FB := hidH (RowAt.below fB hb4)
  have FR := hidH (RowAt.below fR hb4)
  have FW := hidH (fW.trans (hb4.mono (by omega)))
  have sz4 : w3.heap.size + 1 ≤ w4.heap.size := by have := hb4.size; omega
  clear fA fB fR fW fs hb4
  have HT := hidH (turn_any w3.heap.size a.size (dgS a) (dgS b) l12 LA.out LB.out DA.out DB.out w4 FR.out)
  go_wp2_with fail
  refine HT.out.mono ?_; rintro e w5 ⟨rfl, hr5, ho5⟩
  have gA := FA.out.onto ho5 (by omega)
  have gB := FB.out.onto ho5 (by omega)
  have gW : Below w.heap.size w w5 := FW.out.trans (ho5.below (by omega) (by omega))
  have sz5 : w3.heap.size + 1 ≤ w5.heap.size := Nat.le_trans sz4 ho5.size
  have fr := RowAt.fresh w5 0 (pad [])
  have GA := hidH gA
  have GB := hidH gB
  have GR := hidH hr5
  have GW := hidH gW
  have FZ := hidH fr
  clear FA FB FR FW HT gA gB gW hr5 ho5 fr sz4
  have l2 : (pad (passD (dgS a) (dgS b))).length = 12 := pad_length _ (by rw [passD_length _ _ (by rw [LA.out, LB.out]), LA.out]; exact l12)
  have l3 : (pad (turnD (dgS a) (dgS b))).length = 12 := pad_length _ (by rw [turnD_length _ _ (by rw [LA.out, LB.out]), LA.out]; exact l12)
  have S2 := hidH (row_size (a.size : Int) _ l2)
  have E2 := hidH (zero_size (a.size : Int) _ l2)
  have N2 := hidH (row_one (a.size : Int) (pad (passD (dgS a) (dgS b))))
  have L2 := hidH l2
  have L3 := hidH l3
  clear l2 l3
  go_wp2_with (refine wpList_store_row rfl 71 _ _ rfl w5.heap.size _ rfl rfl 71 _ FZ.out S2.out E2.out N2.out ?_)
  rw [← rowC_start]
  have fA := (GA.out.alloc (.cells (rowC 0 (pad [])) 71)).setRowOther w5.heap.size (rowC a.size (pad (passD (dgS a) (dgS b)))) (by omega)
  have fB := (GB.out.alloc (.cells (rowC 0 (pad [])) 71)).setRowOther w5.heap.size (rowC a.size (pad (passD (dgS a) (dgS b)))) (by omega)
  have fT := (GR.out.alloc (.cells (rowC 0 (pad [])) 71)).setRowOther w5.heap.size (rowC a.size (pad (passD (dgS a) (dgS b)))) (by omega)
  have fP := RowAt.filled w5 a.size (pad (passD (dgS a) (dgS b)))
  have fW := Below.filled GW.out (by omega) (.cells (rowC 0 (pad [])) 71) w5.heap.size (rowC a.size (pad (passD (dgS a) (dgS b)))) (by omega)
  generalize (w5.alloc (.cells (rowC 0 (pad [])) 71)).setRow w5.heap.size (rowC a.size (pad (passD (dgS a) (dgS b)))) = V at *
  clear GA GB GR GW FZ
  have S3 := hidH (row_size (a.size : Int) _ L3.out)
  have E3 := hidH (zero_size (a.size : Int) _ L3.out)
  have N3 := hidH (row_one (a.size : Int) (pad (turnD (dgS a) (dgS b))))
  have dA : RowAt V.drew w.heap.size 0 (pad []) := fA
  have dB : RowAt V.drew (w.heap.size + 1) 0 (pad []) := fB
  have dT : RowAt V.drew w3.heap.size a.size (pad (turnD (dgS a) (dgS b))) := fT
  have dP : RowAt V.drew w5.heap.size a.size (pad (passD (dgS a) (dgS b))) := fP
  have dW : Below w.heap.size w V.drew := fW.drew
  have tA := fun cs => dA.setRowOther (w.heap.size + 1) cs (by omega)
  have tB := fun cs => dB.setRowOther w.heap.size cs (by omega)
  have tT1 := fun cs => dT.setRowOther w.heap.size cs (by omega)
  have tT2 := fun cs => dT.setRowOther (w.heap.size + 1) cs (by omega)
  have tP1 := fun cs => dP.setRowOther w.heap.size cs (by omega)
  have tP2 := fun cs => dP.setRowOther (w.heap.size + 1) cs (by omega)
  have DA2 := hidH dA
  have DB2 := hidH dB
  have DT := hidH dT
  have DP := hidH dP
  have DW := hidH dW
  have TA := hidH tA
  have TB := hidH tB
  have TT1 := hidH tT1
  have TT2 := hidH tT2
  have TP1 := hidH tP1
  have TP2 := hidH tP2
  clear fA fB fT fP fW dA dB dT dP dW tA tB tT1 tT2 tP1 tP2
  have hO : Onto w.heap.size V.drew V.drew := Onto.refl _ _
  have FA : Hid (RowAt ((V.drew.setRow w.heap.size (rowC a.size (pad (turnD (dgS a) (dgS b))))).setRow (w.heap.size + 1) (rowC a.size (pad (passD (dgS a) (dgS b))))) w.heap.size a.size (pad (turnD (dgS a) (dgS b)))) := RowAt.setRowOther (RowAt.setRow DA2.out _ _) _ _ (by omega)
  have FB : Hid (RowAt ((V.drew.setRow w.heap.size (rowC a.size (pad (turnD (dgS a) (dgS b))))).setRow (w.heap.size + 1) (rowC a.size (pad (passD (dgS a) (dgS b))))) (w.heap.size + 1) a.size (pad (passD (dgS a) (dgS b)))) := RowAt.setRow (TB.out _) _ _
  have FW : Hid (Below w.heap.size w ((V.drew.setRow w.heap.size (rowC a.size (pad (turnD (dgS a) (dgS b))))).setRow (w.heap.size + 1) (rowC a.size (pad (passD (dgS a) (dgS b)))))) := Below.setRow2 (Below.setRow2 DW.out _ _ (Nat.le_refl _)) _ _ (by omega)
  clear hO
  refine wp_region_any (by kernel_rfl) ?_
  change wpAny _ _ _ _ _ _ _ (World.drew _)
  refine wpAny_ready (rs := [0, 1]) (by kernel_rfl) (by simp) ?_
  refine AllReady.cons rfl (fun K hK => ?_) ?_
  · refine step_load_row rfl 71 _ rfl w3.heap.size rfl 71 _ (0, 0) _ (DT.out) Tryd.underlying71 rfl S3.out ?_
    refine hK _ _ ?_
    clear hK K
    refine wpAny_ready (rs := [1, 2]) (by kernel_rfl) (by simp) ?_
    refine AllReady.cons rfl (fun K hK => ?_) (AllReady.cons rfl (fun K hK => ?_) AllReady.nil)
    · refine step_load_row rfl 71 _ rfl w5.heap.size rfl 71 _ (0, 0) _ (DP.out) Tryd.underlying71 rfl S2.out ?_
      refine hK _ _ ?_
      clear hK K
      refine wpAny_ready (rs := [2]) (by kernel_rfl) (by simp) ?_
      refine AllReady.cons rfl (fun K hK => ?_) AllReady.nil
      refine step_store_row rfl 71 _ _ rfl w.heap.size _ rfl rfl 71 _ (DA2.out) S3.out E3.out N3.out ?_
      refine hK _ _ ?_
      clear hK K
      refine wpAny_ready (rs := [3]) (by kernel_rfl) (by simp) ?_
      refine AllReady.cons rfl (fun K hK => ?_) AllReady.nil
      refine step_store_row rfl 71 _ _ rfl (w.heap.size + 1) _ rfl rfl 71 _ (TB.out _) S2.out E2.out N2.out ?_
      refine hK _ _ ?_
      clear hK K
      refine wpAny_ready (rs := [4]) (by kernel_rfl) (by simp) ?_
      refine AllReady.cons rfl (fun K hK => ?_) AllReady.nil
      go_simp
      refine hK _ _ ?_
      clear hK K
      refine wpAny_done (by kernel_rfl) ?_ _
      go_wp2
      refine bodyPost_ret (v := rows2 a.size (pad (turnD (dgS a) (dgS b))) (pad (passD (dgS a) (dgS b))) true) ?_ rfl ⟨rfl, FW.out⟩
      exact results_rows Tryd.results68 _ _ w.heap.size (w.heap.size + 1) 71 _ _ (0, 0) _ _ rfl rfl rfl FA.out FB.out Tryd.underlying71 rfl S3.out S2.out
    · refine step_store_row rfl 71 _ _ rfl w.heap.size _ rfl rfl 71 _ (DA2.out) S3.out E3.out N3.out ?_
      refine hK _ _ ?_
      clear hK K
      refine wpAny_ready (rs := [1]) (by kernel_rfl) (by simp) ?_
      refine AllReady.cons rfl (fun K hK => ?_) AllReady.nil
      refine step_load_row rfl 71 _ rfl w5.heap.size rfl 71 _ (0, 0) _ (TP1.out _) Tryd.underlying71 rfl S2.out ?_
      refine hK _ _ ?_
      clear hK K
      refine wpAny_ready (rs := [3]) (by kernel_rfl) (by simp) ?_
      refine AllReady.cons rfl (fun K hK => ?_) AllReady.nil
      refine step_store_row rfl 71 _ _ rfl (w.heap.size + 1) _ rfl rfl 71 _ (TB.out _) S2.out E2.out N2.out ?_
      refine hK _ _ ?_
      clear hK K
      refine wpAny_ready (rs := [4]) (by kernel_rfl) (by simp) ?_
      refine AllReady.cons rfl (fun K hK => ?_) AllReady.nil
      go_simp
      refine hK _ _ ?_
      clear hK K
      refine wpAny_done (by kernel_rfl) ?_ _
      go_wp2
      refine bodyPost_ret (v := rows2 a.size (pad (turnD (dgS a) (dgS b))) (pad (passD (dgS a) (dgS b))) true) ?_ rfl ⟨rfl, FW.out⟩
      exact results_rows Tryd.results68 _ _ w.heap.size (w.heap.size + 1) 71 _ _ (0, 0) _ _ rfl rfl rfl FA.out FB.out Tryd.underlying71 rfl S3.out S2.out
  · refine AllReady.cons rfl (fun K hK => ?_) AllReady.nil
    refine step_load_row rfl 71 _ rfl w5.heap.size rfl 71 _ (0, 0) _ (DP.out) Tryd.underlying71 rfl S2.out ?_
    refine hK _ _ ?_
    clear hK K
    refine wpAny_ready (rs := [0]) (by kernel_rfl) (by simp) ?_
    refine AllReady.cons rfl (fun K hK => ?_) AllReady.nil
    refine step_load_row rfl 71 _ rfl w3.heap.size rfl 71 _ (0, 0) _ (DT.out) Tryd.underlying71 rfl S3.out ?_
    refine hK _ _ ?_
    clear hK K
    refine wpAny_ready (rs := [2]) (by kernel_rfl) (by simp) ?_
    refine AllReady.cons rfl (fun K hK => ?_) AllReady.nil
    refine step_store_row rfl 71 _ _ rfl w.heap.size _ rfl rfl 71 _ (DA2.out) S3.out E3.out N3.out ?_
    refine hK _ _ ?_
    clear hK K
    refine wpAny_ready (rs := [3]) (by kernel_rfl) (by simp) ?_
    refine AllReady.cons rfl (fun K hK => ?_) AllReady.nil
    refine step_store_row rfl 71 _ _ rfl (w.heap.size + 1) _ rfl rfl 71 _ (TB.out _) S2.out E2.out N2.out ?_
    refine hK _ _ ?_
    clear hK K
    refine wpAny_ready (rs := [4]) (by kernel_rfl) (by simp) ?_
    refine AllReady.cons rfl (fun K hK => ?_) AllReady.nil
    go_simp
    refine hK _ _ ?_
    clear hK K
    refine wpAny_done (by kernel_rfl) ?_ _
    go_wp2
    refine bodyPost_ret (v := rows2 a.size (pad (turnD (dgS a) (dgS b))) (pad (passD (dgS a) (dgS b))) true) ?_ rfl ⟨rfl, FW.out⟩
    exact results_rows Tryd.results68 _ _ w.heap.size (w.heap.size + 1) 71 _ _ (0, 0) _ _ rfl rfl rfl FA.out FB.out Tryd.underlying71 rfl S3.out S2.out
/-- No rows. -/
theorem no_rows {P : Program} {fn : Func} {p q r : Tmp} (h : fn.results = #[.cell p 71, .cell q 71, .tmp r]) (hP : P = Tryd.prog) (tmps : Array Value) (w : World) (g1 g2 : Nat)
    (hp : tmps.getD p undef = .pointer (some ⟨g1, 0, none⟩)) (hq : tmps.getD q undef = .pointer (some ⟨g2, 0, none⟩)) (hr : tmps.getD r undef = .bool false) (h1 : RowAt w g1 0 (pad [])) (h2 : RowAt w g2 0 (pad [])) :
    (results fn tmps).run P w = .ok (rows2 0 (pad []) (pad []) false) w := by
  subst hP
  exact results_rows h tmps w g1 g2 71 _ _ (0, 0) _ _ hp hq hr h1 h2 Tryd.underlying71 rfl (row_size _ _ (by decide)) (row_size _ _ (by decide))
/-- The end of a function that returns no rows: both results are set to zero rows once more. -/
theorem zeros_twice (w : World) (A B : Nat) (hab : A ≠ B) (hA : RowAt w A 0 (pad [])) (hB : RowAt w B 0 (pad [])) : RowAt ((w.setRow A (rowC 0 (pad []))).setRow B (rowC 0 (pad []))) A 0 (pad []) ∧ RowAt ((w.setRow A (rowC 0 (pad []))).setRow B (rowC 0 (pad []))) B 0 (pad []) :=
  ⟨RowAt.setRowOther (RowAt.setRow hA _ _) _ _ hab, RowAt.setRow (RowAt.setRowOther hB _ _ (fun e => hab e.symm)) _ _⟩
set_option maxHeartbeats 4000000 in
set_option maxRecDepth 100000 in
theorem turned_no (a b : ByteArray) (h : pair a b = false) (w : World) (hsa : a.size ≤ 9223372036854775807) (hsb : b.size ≤ 9223372036854775807) :
    Calls Tryd.prog 68 #[.string a, .string b] w fun e w' => e = .returned (rows2 0 (pad []) (pad []) false) ∧ Below w.heap.size w w' := by
  have z1 : ∀ w : World, RowAt ((w.alloc (.cells (rowC 0 (pad [])) 71)).alloc (.cells (rowC 0 (pad [])) 71)) w.heap.size 0 (pad []) := fun w => (RowAt.fresh w 0 (pad [])).alloc _
  have z2 : ∀ w : World, RowAt ((w.alloc (.cells (rowC 0 (pad [])) 71)).alloc (.cells (rowC 0 (pad [])) 71)) (w.heap.size + 1) 0 (pad []) := fun w => by
    have h := RowAt.fresh (w.alloc (.cells (rowC 0 (pad [])) 71)) 0 (pad [])
    have e : (w.alloc (.cells (rowC 0 (pad [])) 71)).heap.size = w.heap.size + 1 := by simp
    rw [e] at h
    exact h
  have SZ := hidH (row_size 0 (pad []) (by decide))
  have OZ := hidH (row_one 0 (pad []))
  cases ha : ok a
  · have V1 := hidH fun w => h_colNot a hsa ha w
    clear h ha
    have Z1 := hidH (z1 w)
    have Z2 := hidH (z2 w)
    clear z1 z2
    go_enter Tryd.func68, Tryd.ntmps68
    go_wp2_with fail
    refine (V1.out _).mono ?_; rintro e w1 ⟨rfl, hb1⟩
    rw [← rowC_start] at hb1
    have y1 : RowAt w1 w.heap.size 0 (pad []) := Z1.out.below hb1
    have y2 : RowAt w1 (w.heap.size + 1) 0 (pad []) := Z2.out.below hb1
    have ⟨x1, x2⟩ := zeros_twice w1 w.heap.size (w.heap.size + 1) (by omega) y1 y2
    have BW : Hid (Below w.heap.size w w1) := (((Below.refl _ _).alloc (Nat.le_refl _) _).alloc (by simp) _).trans (hb1.mono (by simp; omega))
    have X1 := hidH x1
    have X2 := hidH x2
    have Y1 := hidH y1
    have Y2 := hidH (RowAt.setRowOther y2 w.heap.size (rowC 0 (pad [])) (by omega))
    clear y1 y2 x1 x2 hb1
    go_wp2_with (first | (refine wpList_store_row rfl 71 _ _ rfl w.heap.size (rowC 0 (pad [])) rfl rfl 71 _ Y1.out SZ.out rfl OZ.out ?_) | (refine wpList_store_row rfl 71 _ _ rfl (w.heap.size + 1) (rowC 0 (pad [])) rfl rfl 71 _ Y2.out SZ.out rfl OZ.out ?_))
    refine bodyPost_ret (v := rows2 0 (pad []) (pad []) false) ?_ rfl ⟨rfl, Below.setRow2 (Below.setRow2 BW.out _ _ (Nat.le_refl _)) _ _ (by omega)⟩
    exact no_rows Tryd.results68 rfl _ _ w.heap.size (w.heap.size + 1) rfl rfl rfl X1.out X2.out
  · cases hb : ok b
    · have V1 := hidH fun w => h_colValid a hsa ha w
      have V2 := hidH fun w => h_colNot b hsb hb w
      clear h ha hb
      have Z1 := hidH (z1 w)
      have Z2 := hidH (z2 w)
      clear z1 z2
      go_enter Tryd.func68, Tryd.ntmps68
      go_wp2_with fail
      refine (V1.out _).mono ?_; rintro e w1 ⟨rfl, hb1⟩
      go_wp2_with fail
      refine (V2.out _).mono ?_; rintro e w2 ⟨rfl, hb2⟩
      rw [← rowC_start] at hb1
      have y1 : RowAt w2 w.heap.size 0 (pad []) := (Z1.out.below hb1).below hb2
      have y2 : RowAt w2 (w.heap.size + 1) 0 (pad []) := (Z2.out.below hb1).below hb2
      have ⟨x1, x2⟩ := zeros_twice w2 w.heap.size (w.heap.size + 1) (by omega) y1 y2
      have BW : Hid (Below w.heap.size w w2) := ((((Below.refl _ _).alloc (Nat.le_refl _) _).alloc (by simp) _).trans (hb1.mono (by simp; omega))).trans (hb2.mono (by have := hb1.size; simp at this; omega))
      have X1 := hidH x1
      have X2 := hidH x2
      have Y1 := hidH y1
      have Y2 := hidH (RowAt.setRowOther y2 w.heap.size (rowC 0 (pad [])) (by omega))
      clear y1 y2 x1 x2 hb1 hb2
      go_wp2_with (first | (refine wpList_store_row rfl 71 _ _ rfl w.heap.size (rowC 0 (pad [])) rfl rfl 71 _ Y1.out SZ.out rfl OZ.out ?_) | (refine wpList_store_row rfl 71 _ _ rfl (w.heap.size + 1) (rowC 0 (pad [])) rfl rfl 71 _ Y2.out SZ.out rfl OZ.out ?_))
      refine bodyPost_ret (v := rows2 0 (pad []) (pad []) false) ?_ rfl ⟨rfl, Below.setRow2 (Below.setRow2 BW.out _ _ (Nat.le_refl _)) _ _ (by omega)⟩
      exact no_rows Tryd.results68 rfl _ _ w.heap.size (w.heap.size + 1) rfl rfl rfl X1.out X2.out
    · have V1 := hidH fun w => h_colValid a hsa ha w
      have V2 := hidH fun w => h_colValid b hsb hb w
      have hne : ((a.size : Int) != (b.size : Int)) = true := by
        rw [bne_iff_ne]
        intro e
        have := (pair_iff a b).2 ⟨ha, hb, by omega⟩
        rw [h] at this
        cases this
      clear h ha hb
      have Z1 := hidH (z1 w)
      have Z2 := hidH (z2 w)
      clear z1 z2
      go_enter Tryd.func68, Tryd.ntmps68
      go_wp2_with fail
      refine (V1.out _).mono ?_; rintro e w1 ⟨rfl, hb1⟩
      go_wp2_with fail
      refine (V2.out _).mono ?_; rintro e w2 ⟨rfl, hb2⟩
      rw [← rowC_start] at hb1
      have y1 : RowAt w2 w.heap.size 0 (pad []) := (Z1.out.below hb1).below hb2
      have y2 : RowAt w2 (w.heap.size + 1) 0 (pad []) := (Z2.out.below hb1).below hb2
      have ⟨x1, x2⟩ := zeros_twice w2 w.heap.size (w.heap.size + 1) (by omega) y1 y2
      have BW : Hid (Below w.heap.size w w2) := ((((Below.refl _ _).alloc (Nat.le_refl _) _).alloc (by simp) _).trans (hb1.mono (by simp; omega))).trans (hb2.mono (by have := hb1.size; simp at this; omega))
      have X1 := hidH x1
      have X2 := hidH x2
      have Y1 := hidH y1
      have Y2 := hidH (RowAt.setRowOther y2 w.heap.size (rowC 0 (pad [])) (by omega))
      clear y1 y2 x1 x2 hb1 hb2
      go_wp2_with (first | (refine wpList_store_row rfl 71 _ _ rfl w.heap.size (rowC 0 (pad [])) rfl rfl 71 _ Y1.out SZ.out rfl OZ.out ?_) | (refine wpList_store_row rfl 71 _ _ rfl (w.heap.size + 1) (rowC 0 (pad [])) rfl rfl 71 _ Y2.out SZ.out rfl OZ.out ?_))
      refine bodyPost_ret (v := rows2 0 (pad []) (pad []) false) ?_ rfl ⟨rfl, Below.setRow2 (Below.setRow2 BW.out _ _ (Nat.le_refl _)) _ _ (by omega)⟩
      exact no_rows Tryd.results68 rfl _ _ w.heap.size (w.heap.size + 1) rfl rfl rfl X1.out X2.out
end Go.Proofs.YtliakbgigkajnaaDoor
namespace Go.Proofs.YtliakbgigkajnaaDoor
set_option maxRecDepth 4000
open Go.RowKit
/-- A text of marks. -/
def marks (m : ByteArray) : Bool := m.data.toList.all isMark
/-- A column and marks of its wheels. -/
def flagged (c m : ByteArray) : Bool := ok c && decide (m.size = c.size) && marks m
theorem flagged_iff (c m : ByteArray) : flagged c m = true ↔ ok c = true ∧ m.size = c.size ∧ marks m = true := by
  unfold flagged
  rw [Bool.and_eq_true, Bool.and_eq_true, decide_eq_true_eq, and_assoc]
theorem marks_iff (m : ByteArray) : marks m = true ↔ ∀ c ∈ m.data.toList, (c.toNat : Int) = 48 ∨ (c.toNat : Int) = 49 := by
  unfold marks
  rw [List.all_eq_true]
  constructor
  · intro h c hc
    have := h c hc
    simp only [isMark, Bool.or_eq_true, beq_iff_eq, ← UInt8.toNat_inj] at this
    simp at this
    omega
  · intro h c hc
    have := h c hc
    simp only [isMark, Bool.or_eq_true, beq_iff_eq, ← UInt8.toNat_inj]
    simp
    omega
theorem flagged_facts (c m : ByteArray) (h : flagged c m = true) : ok c = true ∧ ok m = true ∧ m.size = c.size ∧ flags (dgS m) := by
  obtain ⟨h1, h2, h3⟩ := (flagged_iff c m).1 h
  have hm := (marks_iff m).1 h3
  have ⟨_, l1, l2⟩ := (ok_iff c).1 h1
  refine ⟨h1, (ok_iff m).2 ⟨fun x hx => by have := hm x hx; omega, by omega, by omega⟩, h2, ?_⟩
  intro d hd
  simp only [dgS, dg, List.mem_map, List.mem_reverse] at hd
  obtain ⟨x, hx, rfl⟩ := hd
  have := hm x hx
  omega
end Go.Proofs.YtliakbgigkajnaaDoor
namespace Go.Proofs.YtliakbgigkajnaaDoor
set_option maxRecDepth 4000
open Go.RowKit
theorem text_row (b n : Nat) (ds : List Int) (hl : ds.length = n) (hn : n ≤ 12) (hd : digs ds) (w : World) (h : RowAt w b n (pad ds)) : Calls Tryd.prog 70 #[.pointer (some ⟨b, 0, none⟩)] w fun e w' => e = .returned (.string ⟨(txt ds).toArray⟩) ∧ Below w.heap.size w w' :=
  text_any b n ds hl hn hd w h.width (fun k d hk => h.digit k d (by rw [pad_at ds k ((List.getElem?_eq_some_iff.1 hk).1), hk])) h.lt
/-- Two new rows. -/
theorem new_one (w : World) : RowAt ((w.alloc (.cells (rowC 0 (pad [])) 71)).alloc (.cells (rowC 0 (pad [])) 71)) w.heap.size 0 (pad []) := (RowAt.fresh w 0 (pad [])).alloc _
theorem new_two (w : World) : RowAt ((w.alloc (.cells (rowC 0 (pad [])) 71)).alloc (.cells (rowC 0 (pad [])) 71)) (w.heap.size + 1) 0 (pad []) := by
  have h := RowAt.fresh (w.alloc (.cells (rowC 0 (pad [])) 71)) 0 (pad [])
  have e : (w.alloc (.cells (rowC 0 (pad [])) 71)).heap.size = w.heap.size + 1 := by simp
  rw [e] at h
  exact h
theorem new_two' (w : World) (cs : Array Value) : RowAt (((w.alloc (.cells (rowC 0 (pad [])) 71)).alloc (.cells (rowC 0 (pad [])) 71)).setRow w.heap.size cs) (w.heap.size + 1) 0 (pad []) := RowAt.setRowOther (new_two w) _ _ (by omega)
/-- The world with two new rows. -/
def two (w : World) (n : Int) (A B : List Int) : World := ((((w.alloc (.cells (rowC 0 (pad [])) 71)).alloc (.cells (rowC 0 (pad [])) 71)).setRow w.heap.size (rowC n A)).setRow (w.heap.size + 1) (rowC n B))
theorem two_a (w : World) (n : Int) (A B : List Int) : RowAt (two w n A B) w.heap.size n A := RowAt.setRowOther (RowAt.setRow (new_one w) n A) _ _ (by omega)
theorem two_b (w : World) (n : Int) (A B : List Int) : RowAt (two w n A B) (w.heap.size + 1) n B := RowAt.setRow (new_two' w _) n B
theorem two_below (w : World) (n : Int) (A B : List Int) : Below w.heap.size w (two w n A B) :=
  Below.setRow2 (Below.setRow2 (((Below.refl _ _).alloc (Nat.le_refl _) _).alloc (by simp) _) _ _ (Nat.le_refl _)) _ _ (by omega)
theorem two_size (w : World) (n : Int) (A B : List Int) : (two w n A B).heap.size = w.heap.size + 2 := by simp [two]
/-- A pair of columns, with what follows. -/
theorem pair_facts (a b : ByteArray) (h : pair a b = true) : digs (dgS a) ∧ digs (dgS b) ∧ (dgS a).length = a.size ∧ (dgS b).length = a.size ∧ 1 ≤ a.size ∧ a.size ≤ 12 ∧ (turnD (dgS a) (dgS b)).length = a.size ∧ (passD (dgS a) (dgS b)).length = a.size := by
  obtain ⟨ha, hb, hab⟩ := (pair_iff a b).1 h
  have ⟨da, la⟩ := dgS_facts a ha
  have ⟨db, lb⟩ := dgS_facts b hb
  have ⟨_, l1, l2⟩ := (ok_iff a).1 ha
  exact ⟨da, db, la, by omega, l1, l2, by rw [turnD_length _ _ (by omega), la], by rw [passD_length _ _ (by omega), la]⟩
variable (a b : ByteArray) (w : World) (hsa : a.size ≤ 9223372036854775807) (hsb : b.size ≤ 9223372036854775807)
include hsa hsb
theorem turned2_yes (h : pair a b = true) : Calls Tryd.prog 68 #[.string a, .string b] w fun e w' => e = .returned (.tuple #[.agg (rowC a.size (pad (turnD (dgS a) (dgS b)))), .agg (rowC a.size (pad (passD (dgS a) (dgS b)))), .bool true]) ∧ Below w.heap.size w w' := by
  obtain ⟨ha, hb, hab⟩ := (pair_iff a b).1 h
  exact turned_yes a b ha hb hab w hsa hsb
theorem turned2_no (h : pair a b = false) : Calls Tryd.prog 68 #[.string a, .string b] w fun e w' => e = .returned (.tuple #[.agg (rowC 0 (pad [])), .agg (rowC 0 (pad [])), .bool false]) ∧ Below w.heap.size w w' := turned_no a b h w hsa hsb
set_option maxHeartbeats 1600000 in
theorem addC_no (h : pair a b = false) : Calls Tryd.prog 50 #[.string a, .string b] w (fun e w' => e = .returned (.tuple #[.string ⟨#[]⟩, .bool false]) ∧ Below w.heap.size w w') := by
  have V1 := hidH fun w => turned2_no a b w hsa hsb h
  have SZ := hidH (row_size 0 (pad []) (by decide))
  have OZ := hidH (row_one 0 (pad []))
  clear h
  go_enter Tryd.func50, Tryd.ntmps50
  go_wp2_with fail
  refine (V1.out _).mono ?_; rintro e w1 ⟨rfl, hb1⟩
  have N1 := hidH (new_one w1)
  have N2 := hidH (new_two' w1)
  have HB := hidH hb1
  have B2 := hidH (two_below w1 0 (pad []) (pad []))
  clear hb1
  go_wp2_with (first | (refine wpList_store_row rfl 71 _ _ rfl w1.heap.size (rowC 0 (pad [])) rfl rfl 71 _ N1.out SZ.out rfl OZ.out ?_) | (refine wpList_store_row rfl 71 _ _ rfl (w1.heap.size + 1) (rowC 0 (pad [])) rfl rfl 71 _ (N2.out _) SZ.out rfl OZ.out ?_))
  go_ret2
  exact ⟨rfl, HB.out.trans (B2.out.mono HB.out.size)⟩
set_option maxHeartbeats 1600000 in
theorem addC_yes (h : pair a b = true) : Calls Tryd.prog 50 #[.string a, .string b] w (fun e w' => e = .returned (.tuple #[.string ⟨(txt (aheadD 0 (turnD (dgS a) (dgS b)) (passD (dgS a) (dgS b)))).toArray⟩, .bool true]) ∧ Below w.heap.size w w') := by
  have ⟨da, db, la, lb, l1, l12, lt, lp⟩ := pair_facts a b h
  have LT := hidH lt
  have LP := hidH lp
  have DT := hidH (turnD_digs (dgS a) (dgS b))
  have FP := hidH (passD_flags _ _ da db)
  have LL := hidH (show (dgS a).length = (dgS b).length by omega)
  have V1 := hidH fun w => turned2_yes a b w hsa hsb h
  have lT : (pad (turnD (dgS a) (dgS b))).length = 12 := pad_length _ (by omega)
  have lP : (pad (passD (dgS a) (dgS b))).length = 12 := pad_length _ (by omega)
  have S1 := hidH (row_size (a.size : Int) _ lT)
  have E1 := hidH (zero_size (a.size : Int) _ lT)
  have O1 := hidH (row_one (a.size : Int) (pad (turnD (dgS a) (dgS b))))
  have S2 := hidH (row_size (a.size : Int) _ lP)
  have E2 := hidH (zero_size (a.size : Int) _ lP)
  have O2 := hidH (row_one (a.size : Int) (pad (passD (dgS a) (dgS b))))
  clear h lT lP
  go_enter Tryd.func50, Tryd.ntmps50
  go_wp2_with fail
  refine (V1.out _).mono ?_; rintro e w1 ⟨rfl, hb1⟩
  have N1 := hidH (new_one w1)
  have N2 := hidH (new_two' w1)
  have HB := hidH hb1
  have TB := hidH (two_below w1 a.size (pad (turnD (dgS a) (dgS b))) (pad (passD (dgS a) (dgS b))))
  have TS := hidH (two_size w1 a.size (pad (turnD (dgS a) (dgS b))) (pad (passD (dgS a) (dgS b))))
  have RA := hidH (two_a w1 a.size (pad (turnD (dgS a) (dgS b))) (pad (passD (dgS a) (dgS b))))
  have RB := hidH (two_b w1 a.size (pad (turnD (dgS a) (dgS b))) (pad (passD (dgS a) (dgS b))))
  clear hb1
  go_wp2_with (first | (refine wpList_store_row rfl 71 _ _ rfl w1.heap.size _ rfl rfl 71 _ N1.out S1.out E1.out O1.out ?_) | (refine wpList_store_row rfl 71 _ _ rfl (w1.heap.size + 1) _ rfl rfl 71 _ (N2.out _) S2.out E2.out O2.out ?_) | (refine wpList_load_row rfl 71 _ rfl (w1.heap.size + 1) rfl 71 _ (0, 0) _ RB.out Tryd.underlying71 rfl S2.out ?_))
  refine (ahead_any w1.heap.size a.size (turnD (dgS a) (dgS b)) (passD (dgS a) (dgS b)) l12 LT.out LP.out DT.out FP.out _ RA.out).mono ?_
  rintro e w2 ⟨rfl, hr2, ho2⟩
  have R2 := hidH hr2
  have O3 := hidH (Onto.below ho2 (Nat.le_refl _) (by rw [TS.out]; omega))
  clear hr2 ho2
  go_wp2_with fail
  refine (text_row w1.heap.size a.size (aheadD 0 (turnD (dgS a) (dgS b)) (passD (dgS a) (dgS b))) (by rw [aheadD_length _ _ _ (by rw [LT.out, LP.out]), LT.out]) l12 (aheadD_digs _ _ _) _ R2.out).mono ?_
  rintro e w3 ⟨rfl, hb3⟩
  have H3 := hidH hb3
  clear hb3
  go_wp2
  go_ret2
  exact ⟨rfl, HB.out.trans ((TB.out.trans (O3.out.trans (H3.out.mono (Nat.le_trans TB.out.size O3.out.size)))).mono HB.out.size)⟩
end Go.Proofs.YtliakbgigkajnaaDoor
