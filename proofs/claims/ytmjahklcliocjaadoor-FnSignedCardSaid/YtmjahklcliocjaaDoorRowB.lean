/-
  A row of wheels turned by another one, without carries. Condition: both rows have the same width, of at most twelve wheels.
-/
import Derived.Test.YtmjahklcliocjaaDoorRowA
import Derived.Test.YtmjahklcliocjaaDoorMathB
namespace Go.Proofs.YtmjahklcliocjaaDoor
set_option maxRecDepth 4000
open Go.RowKit
/-- Block b holds a row of wheels. -/
def RowAt (w : World) (b : Nat) (n : Int) (L : List Int) : Prop := w.heap[b]? = some (.cells (rowC n L) 57 (0, 0))
theorem RowAt.cell {w : World} {b : Nat} {n : Int} {L : List Int} (h : RowAt w b n L) (i : Nat) : w.cell? ⟨b, i, none⟩ = (rowC n L)[i]? := by
  unfold World.cell?
  rw [h]
  rfl
theorem RowAt.width {w : World} {b : Nat} {n : Int} {L : List Int} (h : RowAt w b n L) : w.cell? ⟨b, 0, none⟩ = some (.int .i64 n) := by rw [h.cell, rowC_zero]
theorem RowAt.digit {w : World} {b : Nat} {n : Int} {L : List Int} (h : RowAt w b n L) (i : Nat) (d : Int) (hd : L[i]? = some d) : w.cell? ⟨b, 1 + i, none⟩ = some (.int .i64 d) := by rw [h.cell, Nat.add_comm, rowC_at, hd]; rfl
theorem RowAt.free {w : World} {b : Nat} {n : Int} {L : List Int} (h : RowAt w b n L) (i : Nat) : w.frozen? ⟨b, i, none⟩ = false := by
  unfold World.frozen?
  rw [h]
  rfl
theorem RowAt.lt {w : World} {b : Nat} {n : Int} {L : List Int} (h : RowAt w b n L) : b < w.heap.size := (Array.getElem?_eq_some_iff.1 h).1
theorem RowAt.set {w : World} {b : Nat} {n : Int} {L : List Int} (h : RowAt w b n L) (i : Nat) (d : Int) : RowAt (w.setCell ⟨b, 1 + i, none⟩ (.int .i64 d)) b n (L.set i d) := by
  unfold RowAt at *
  have : (w.setCell ⟨b, 1 + i, none⟩ (.int .i64 d)).heap[b]? = some (.cells ((rowC n L).setIfInBounds (1 + i) (.int .i64 d)) 57 (0, 0)) := by
    simp [World.setCell, Array.getElem?_modify, h]
  rw [this, Nat.add_comm 1 i, rowC_set]
theorem RowAt.setRow {w : World} {b : Nat} {n : Int} {L : List Int} (h : RowAt w b n L) (n' : Int) (L' : List Int) : RowAt (w.setRow b (rowC n' L')) b n' L' := by
  unfold RowAt at *
  simp [World.setRow, Array.getElem?_modify, h]
theorem row_size (n : Int) (L : List Int) (h : L.length = 12) : (Tryd.prog.info? 57).map (·.size) = some (rowC n L).size := by
  rw [rowC_size, h]
  kernel_rfl
theorem row_one (n : Int) (L : List Int) : (rowC n L).all (·.oneCell') = true := by
  simp [rowC, Value.oneCell']
theorem RowAt.setRowOther {w : World} {b : Nat} {n : Int} {L : List Int} (h : RowAt w b n L) (g : Nat) (cs : Array Value) (hg : b ≠ g) : RowAt (w.setRow g cs) b n L := by
  unfold RowAt at *
  rw [setRow_other w g b cs hg]; exact h
theorem Below.setRow2 {B : Nat} {a b : World} (h : Below B a b) (g : Nat) (cs : Array Value) (hg : B ≤ g) : Below B a (b.setRow g cs) :=
  ⟨h.os, h.tape, h.output, by simpa using h.size, fun k hk => by rw [setRow_other b g k cs (by omega)]; exact h.block k hk⟩
theorem Onto.setRow {r : Nat} {a b : World} (h : Onto r a b) (g : Nat) (cs : Array Value) (hg : a.heap.size ≤ g) : Onto r a (b.setRow g cs) :=
  ⟨h.os, h.tape, h.output, by simpa using h.size, fun k hk hr => by rw [setRow_other b g k cs (by omega)]; exact h.block k hk hr⟩
theorem RowAt.other {w : World} {b : Nat} {n : Int} {L : List Int} (h : RowAt w b n L) (c i : Nat) (v : Value) (hc : b ≠ c) : RowAt (w.setCell ⟨c, i, none⟩ v) b n L := by
  unfold RowAt at *
  rw [Below.heap_setCell w ⟨c, i, none⟩ v b hc]; exact h
theorem RowAt.drewN {w : World} {b : Nat} {n : Int} {L : List Int} (h : RowAt w b n L) (q : Nat) : RowAt (w.drewN q) b n L := h
theorem RowAt.alloc {w : World} {b : Nat} {n : Int} {L : List Int} (h : RowAt w b n L) (o : Obj) : RowAt (w.alloc o) b n L := by
  unfold RowAt at *
  rw [Below.heap_alloc w o b (Array.getElem?_eq_some_iff.1 h).1]; exact h
theorem RowAt.fresh (w : World) (n : Int) (L : List Int) : RowAt (w.alloc (.cells (rowC n L) 57)) w.heap.size n L := by
  unfold RowAt
  show (w.heap.push _)[w.heap.size]? = _
  simp
theorem RowAt.onto {w w' : World} {b c : Nat} {n : Int} {L : List Int} (h : RowAt w b n L) (ho : Onto c w w') (hc : b ≠ c) : RowAt w' b n L := by
  unfold RowAt at *
  rw [ho.block b (Array.getElem?_eq_some_iff.1 h).1 hc]; exact h
theorem RowAt.below {w w' : World} {b : Nat} {n : Int} {L : List Int} (h : RowAt w b n L) (ho : Below w.heap.size w w') : RowAt w' b n L := by
  unfold RowAt at *
  rw [ho.block b (Array.getElem?_eq_some_iff.1 h).1]; exact h
/-- The wheels of which the lowest k have been turned. -/
def someT (T A : List Int) (k : Nat) : List Int := T.take k ++ (pad A).drop k
theorem someT_zero (T A : List Int) : someT T A 0 = pad A := rfl
theorem someT_set (T A : List Int) (k : Nat) (x : Int) (hA : A.length ≤ 12) (hk : k < 12) (hT : T[k]? = some x) : (someT T A k).set k x = someT T A (k + 1) := by
  have hl : k < T.length := (List.getElem?_eq_some_iff.1 hT).1
  have e1 : (T.take k).length = k := by rw [List.length_take]; omega
  have hp : k < (pad A).length := by rw [pad_length A hA]; exact hk
  unfold someT
  rw [List.set_append_right _ _ (by omega), e1, Nat.sub_self, List.drop_eq_getElem_cons hp, List.set_cons_zero, take_get T k x hT, List.append_assoc]
  rfl
theorem someT_full (T A : List Int) (n : Nat) (hT : T.length = n) (hA : A.length = n) : someT T A n = pad T := by
  unfold someT pad
  rw [List.take_of_length_le (by omega), List.drop_append, hA, Nat.sub_self, List.drop_zero, List.drop_of_length_le (by omega), hT]
  rfl
theorem turnD_at (A M : List Int) (k : Nat) (a m : Int) (ha : A[k]? = some a) (hm : M[k]? = some m) : (turnD A M)[k]? = some ((a + m) % 10) := by
  rw [turnD_zip, List.getElem?_zipWith, ha, hm]
theorem passD_at (A M : List Int) (k : Nat) (a m : Int) (ha : A[k]? = some a) (hm : M[k]? = some m) : (passD A M)[k]? = some ((a + m) / 10) := by
  rw [passD_zip, List.getElem?_zipWith, ha, hm]
/-- What holds of memory when the lowest k wheels have been turned. -/
structure Turned (w : World) (b n : Nat) (A M : List Int) (k : Nat) (wr : World) : Prop where
  row : RowAt wr b n (someT (turnD A M) A k)
  by_ : RowAt wr w.heap.size n (pad M)
  res : RowAt wr (w.heap.size + 1) 0 (pad [])
  passed : RowAt wr (w.heap.size + 2) n (pad ((passD A M).take k))
  size : wr.heap.size = w.heap.size + 3
  onto : Onto b w wr
theorem Turned.step {w : World} {b n : Nat} {A M : List Int} {k : Nat} {wr : World} (h : Turned w b n A M k wr) (hn : n ≤ 12) (hA : A.length = n) (hM : M.length = n) (hb : b < w.heap.size) (hk : k < n) (a m : Int) (ha : A[k]? = some a) (hm : M[k]? = some m) (q : Nat) :
    Turned w b n A M (k + 1) (((wr.drewN q).setCell ⟨b, 1 + k, none⟩ (.int .i64 ((a + m) % 10))).setCell ⟨w.heap.size + 1 + 1, 1 + k, none⟩ (.int .i64 ((a + m) / 10))) := by
  have e0 := passD_at A M k a m ha hm
  have e1 := take_get _ _ _ e0
  have el : ((passD A M).take k).length = k := by rw [List.length_take, passD_length _ _ (by omega), hA]; omega
  have e2 : (pad ((passD A M).take k)).set k ((a + m) / 10) = pad ((passD A M).take (k + 1)) := by
    have := pad_set ((passD A M).take k) ((a + m) / 10) (by omega)
    rw [el] at this
    rw [this, e1]
  refine ⟨?_, ?_, ?_, ?_, ?_, ?_⟩
  · rw [← someT_set _ A k _ (by omega) (by omega) (turnD_at A M k a m ha hm)]
    exact ((h.row.drewN q).set k _).other _ _ _ (by omega)
  · exact ((h.by_.drewN q).other _ _ _ (by omega)).other _ _ _ (by omega)
  · exact ((h.res.drewN q).other _ _ _ (by omega)).other _ _ _ (by omega)
  · rw [← e2]
    exact ((h.passed.drewN q).other _ _ _ (by omega)).set k _
  · have := h.size
    simpa [World.setCell] using this
  · refine ⟨h.onto.os, h.onto.tape, h.onto.output, ?_, fun j hj hjb => ?_⟩
    · have := h.size
      simp [World.setCell]
      omega
    · rw [Below.heap_setCell _ _ _ j (by show j ≠ w.heap.size + 1 + 1; omega), Below.heap_setCell _ _ _ j hjb]
      exact h.onto.block j hj hjb
end Go.Proofs.YtmjahklcliocjaaDoor
