/-
  A row of wheels turned by another one, without carries. Condition: both rows have the same width, of at most twelve wheels.
-/
import Derived.Test.YtffmhcahiabicaaDoorRowA
import Derived.Test.YtffmhcahiabicaaDoorMathB
namespace Go.Proofs.YtffmhcahiabicaaDoor
set_option maxRecDepth 4000
open Go.RowKit
/-- Block b holds a row of wheels. -/
def RowAt (w : World) (b : Nat) (n : Int) (L : List Int) : Prop := w.heap[b]? = some (.cells (rowC n L) 124 (0, 0))
theorem RowAt.cell {w : World} {b : Nat} {n : Int} {L : List Int} (h : RowAt w b n L) (i : Nat) : w.cell? ⟨b, i, none⟩ = (rowC n L)[i]? := by
  unfold World.cell?
  rw [h]
  rfl
theorem RowAt.width {w : World} {b : Nat} {n : Int} {L : List Int} (h : RowAt w b n L) : w.cell? ⟨b, 0, none⟩ = some (.int .i64 n) := by rw [h.cell, rowC_zero]
theorem RowAt.digit {w : World} {b : Nat} {n : Int} {L : List Int} (h : RowAt w b n L) (i : Nat) (d : Int) (hd : L[i]? = some d) : w.cell? ⟨b, 1 + i, none⟩ = some (.int .i64 d) := by rw [h.cell, Nat.add_comm, rowC_at, hd]; rfl
theorem RowAt.free {w : World} {b : Nat} {n : Int} {L : List Int} (h : RowAt w b n L) (i : Nat) : w.frozen? ⟨b, i, none⟩ = false := by
  unfold World.frozen?
  rw [h]
  rfl
theorem RowAt.lt {w : World} {b : Nat} {n : Int} {L : List Int} (h : RowAt w b n L) : b < w.heap.size := (Array.getElem?_eq_some_iff.1 h).1
theorem RowAt.set {w : World} {b : Nat} {n : Int} {L : List Int} (h : RowAt w b n L) (i : Nat) (d : Int) : RowAt (w.setCell ⟨b, 1 + i, none⟩ (.int .i64 d)) b n (L.set i d) := by
  unfold RowAt at *
  have : (w.setCell ⟨b, 1 + i, none⟩ (.int .i64 d)).heap[b]? = some (.cells ((rowC n L).setIfInBounds (1 + i) (.int .i64 d)) 124 (0, 0)) := by
    simp [World.setCell, Array.getElem?_modify, h]
  rw [this, Nat.add_comm 1 i, rowC_set]
theorem RowAt.setRow {w : World} {b : Nat} {n : Int} {L : List Int} (h : RowAt w b n L) (n' : Int) (L' : List Int) : RowAt (w.setRow b (rowC n' L')) b n' L' := by
  unfold RowAt at *
  simp [World.setRow, Array.getElem?_modify, h]
theorem row_size (n : Int) (L : List Int) (h : L.length = 12) : (Tryd.prog.info? 124).map (·.size) = some (rowC n L).size := by
  rw [rowC_size, h]
  kernel_rfl
theorem row_one (n : Int) (L : List Int) : (rowC n L).all (·.oneCell') = true := by
  simp [rowC, Value.oneCell']
theorem RowAt.setRowOther {w : World} {b : Nat} {n : Int} {L : List Int} (h : RowAt w b n L) (g : Nat) (cs : Array Value) (hg : b ≠ g) : RowAt (w.setRow g cs) b n L := by
  unfold RowAt at *
  rw [setRow_other w g b cs hg]; exact h
theorem Below.setRow2 {B : Nat} {a b : World} (h : Below B a b) (g : Nat) (cs : Array Value) (hg : B ≤ g) : Below B a (b.setRow g cs) :=
  ⟨h.os, h.tape, h.output, by simpa using h.size, fun k hk => by rw [setRow_other b g k cs (by omega)]; exact h.block k hk⟩
theorem Onto.setRow {r : Nat} {a b : World} (h : Onto r a b) (g : Nat) (cs : Array Value) (hg : a.heap.size ≤ g) : Onto r a (b.setRow g cs) :=
  ⟨h.os, h.tape, h.output, by simpa using h.size, fun k hk hr => by rw [setRow_other b g k cs (by omega)]; exact h.block k hk hr⟩
theorem RowAt.other {w : World} {b : Nat} {n : Int} {L : List Int} (h : RowAt w b n L) (c i : Nat) (v : Value) (hc : b ≠ c) : RowAt (w.setCell ⟨c, i, none⟩ v) b n L := by
  unfold RowAt at *
  rw [Below.heap_setCell w ⟨c, i, none⟩ v b hc]; exact h
theorem RowAt.drewN {w : World} {b : Nat} {n : Int} {L : List Int} (h : RowAt w b n L) (q : Nat) : RowAt (w.drewN q) b n L := h
theorem RowAt.alloc {w : World} {b : Nat} {n : Int} {L : List Int} (h : RowAt w b n L) (o : Obj) : RowAt (w.alloc o) b n L := by
  unfold RowAt at *
  rw [Below.heap_alloc w o b (Array.getElem?_eq_some_iff.1 h).1]; exact h
theorem RowAt.fresh (w : World) (n : Int) (L : List Int) : RowAt (w.alloc (.cells (rowC n L) 124)) w.heap.size n L := by
  unfold RowAt
  show (w.heap.push _)[w.heap.size]? = _
  simp
theorem RowAt.onto {w w' : World} {b c : Nat} {n : Int} {L : List Int} (h : RowAt w b n L) (ho : Onto c w w') (hc : b ≠ c) : RowAt w' b n L := by
  unfold RowAt at *
  rw [ho.block b (Array.getElem?_eq_some_iff.1 h).1 hc]; exact h
theorem RowAt.below {w w' : World} {b : Nat} {n : Int} {L : List Int} (h : RowAt w b n L) (ho : Below w.heap.size w w') : RowAt w' b n L := by
  unfold RowAt at *
  rw [ho.block b (Array.getElem?_eq_some_iff.1 h).1]; exact h
/-- The wheels of which the lowest k have been turned. -/
def someT (T A : List Int) (k : Nat) : List Int := T.take k ++ (pad A).drop k
theorem someT_zero (T A : List Int) : someT T A 0 = pad A := rfl
theorem someT_set (T A : List Int) (k : Nat) (x : Int) (hA : A.length ≤ 12) (hk : k < 12) (hT : T[k]? = some x) : (someT T A k).set k x = someT T A (k + 1) := by
  have hl : k < T.length := (List.getElem?_eq_some_iff.1 hT).1
  have e1 : (T.take k).length = k := by rw [List.length_take]; omega
  have hp : k < (pad A).length := by rw [pad_length A hA]; exact hk
  unfold someT
  rw [List.set_append_right _ _ (by omega), e1, Nat.sub_self, List.drop_eq_getElem_cons hp, List.set_cons_zero, take_get T k x hT, List.append_assoc]
  rfl
theorem someT_full (T A : List Int) (n : Nat) (hT : T.length = n) (hA : A.length = n) : someT T A n = pad T := by
  unfold someT pad
  rw [List.take_of_length_le (by omega), List.drop_append, hA, Nat.sub_self, List.drop_zero, List.drop_of_length_le (by omega), hT]
  rfl
theorem turnD_at (A M : List Int) (k : Nat) (a m : Int) (ha : A[k]? = some a) (hm : M[k]? = some m) : (turnD A M)[k]? = some ((a + m) % 10) := by
  rw [turnD_zip, List.getElem?_zipWith, ha, hm]
theorem passD_at (A M : List Int) (k : Nat) (a m : Int) (ha : A[k]? = some a) (hm : M[k]? = some m) : (passD A M)[k]? = some ((a + m) / 10) := by
  rw [passD_zip, List.getElem?_zipWith, ha, hm]
/-- What holds of memory when the lowest k wheels have been turned. -/
structure Turned (w : World) (b n : Nat) (A M : List Int) (k : Nat) (wr : World) : Prop where
  row : RowAt wr b n (someT (turnD A M) A k)
  by_ : RowAt wr w.heap.size n (pad M)
  res : RowAt wr (w.heap.size + 1) 0 (pad [])
  passed : RowAt wr (w.heap.size + 2) n (pad ((passD A M).take k))
  size : wr.heap.size = w.heap.size + 3
  onto : Onto b w wr
theorem Turned.step {w : World} {b n : Nat} {A M : List Int} {k : Nat} {wr : World} (h : Turned w b n A M k wr) (hn : n ≤ 12) (hA : A.length = n) (hM : M.length = n) (hb : b < w.heap.size) (hk : k < n) (a m : Int) (ha : A[k]? = some a) (hm : M[k]? = some m) (q : Nat) :
    Turned w b n A M (k + 1) (((wr.drewN q).setCell ⟨b, 1 + k, none⟩ (.int .i64 ((a + m) % 10))).setCell ⟨w.heap.size + 1 + 1, 1 + k, none⟩ (.int .i64 ((a + m) / 10))) := by
  have e0 := passD_at A M k a m ha hm
  have e1 := take_get _ _ _ e0
  have el : ((passD A M).take k).length = k := by rw [List.length_take, passD_length _ _ (by omega), hA]; omega
  have e2 : (pad ((passD A M).take k)).set k ((a + m) / 10) = pad ((passD A M).take (k + 1)) := by
    have := pad_set ((passD A M).take k) ((a + m) / 10) (by omega)
    rw [el] at this
    rw [this, e1]
  refine ⟨?_, ?_, ?_, ?_, ?_, ?_⟩
  · rw [← someT_set _ A k _ (by omega) (by omega) (turnD_at A M k a m ha hm)]
    exact ((h.row.drewN q).set k _).other _ _ _ (by omega)
  · exact ((h.by_.drewN q).other _ _ _ (by omega)).other _ _ _ (by omega)
  · exact ((h.res.drewN q).other _ _ _ (by omega)).other _ _ _ (by omega)
  · rw [← e2]
    exact ((h.passed.drewN q).other _ _ _ (by omega)).set k _
  · have := h.size
    simpa [World.setCell] using this
  · refine ⟨h.onto.os, h.onto.tape, h.onto.output, ?_, fun j hj hjb => ?_⟩
    · have := h.size
      simp [World.setCell]
      omega
    · rw [Below.heap_setCell _ _ _ j (by show j ≠ w.heap.size + 1 + 1; omega), Below.heap_setCell _ _ _ j hjb]
      exact h.onto.block j hj hjb
set_option maxHeartbeats 1600000 in
theorem turn_any (b n : Nat) (A M : List Int) (hn : n ≤ 12) (hA : A.length = n) (hM : M.length = n) (dA : digs A) (dM : digs M) (w : World) (hR : RowAt w b n (pad A)) :
    Calls Tryd.prog 159 #[.pointer (some ⟨b, 0, none⟩), .agg (rowC n (pad M))] w fun e w' => e = .returned (.agg (rowC n (pad (passD A M)))) ∧ RowAt w' b n (pad (turnD A M)) ∧ Onto b w w' := by
  have hlt := hR.lt
  have hw1 : ∀ X, (w.alloc X).cell? ⟨b, 0, none⟩ = some (.int .i64 n) := fun X => (hR.alloc X).width
  have hw2 : ∀ X Y, ((w.alloc X).alloc Y).cell? ⟨b, 0, none⟩ = some (.int .i64 n) := fun X Y => ((hR.alloc X).alloc Y).width
  have hw3 : ∀ X Y Z, (((w.alloc X).alloc Y).alloc Z).cell? ⟨b, 0, none⟩ = some (.int .i64 n) := fun X Y Z => (((hR.alloc X).alloc Y).alloc Z).width
  have LA := hidH hA
  have LM := hidH hM
  have HR := hidH hR
  have DA := hidH dA
  have DM := hidH dM
  clear hR hA hM dA dM
  obtain ⟨m0, m1, m2, m3, m4, m5, m6, m7, m8, m9, m10, m11, e⟩ := row12 (pad M) (pad_length _ (by rw [LM.out]; exact hn))
  have HE := hidH e
  rw [e, rowC_lit]
  clear e
  go_enter Tryd.func159, Tryd.ntmps159
  go_wp2
  clear hw1 hw2 hw3
  go_loopw [17] (fun i wr => ∃ k : Nat, k ≤ n ∧ i = .int .i64 k ∧ Turned w b n A M k wr) (fun i _ => n - (intOf i).toNat)
  case atStart =>
    refine ⟨0, Nat.zero_le _, rfl, ?_⟩
    rw [← rowC_lit, ← HE.out, ← rowC_start, ← rowC_start]
    have hne : b ≠ w.heap.size := by omega
    refine ⟨((HR.out.alloc _).alloc _).alloc _, ((RowAt.fresh w n (pad M)).alloc _).alloc _, ?_, ?_, by simp, (((Onto.refl _ _).alloc _).alloc _).alloc _⟩
    · have := (RowAt.fresh (w.alloc (.cells (rowC n (pad M)) 124)) 0 (pad [])).alloc (.cells (rowC n (pad [])) 124)
      simpa using this
    · have := RowAt.fresh ((w.alloc (.cells (rowC n (pad M)) 124)).alloc (.cells (rowC 0 (pad [])) 124)) n (pad [])
      simpa using this
  case round =>
    obtain ⟨k, hk, rfl, hT⟩ := hrel
    have HT := hidH hT
    clear hT
    by_cases hlk : k < n
    · obtain ⟨a, ha⟩ : ∃ a, A[k]? = some a := ⟨_, List.getElem?_eq_getElem (by rw [LA.out]; exact hlk)⟩
      obtain ⟨m, hm⟩ : ∃ m, M[k]? = some m := ⟨_, List.getElem?_eq_getElem (by rw [LM.out]; exact hlk)⟩
      have ⟨a1, a2⟩ := DA.out a (List.mem_of_getElem? ha)
      have ⟨b1, b2⟩ := DM.out m (List.mem_of_getElem? hm)
      have HA := hidH ha
      have HM := hidH hm
      clear ha hm
      have c0 : wr.cell? ⟨b, 1 + k, none⟩ = some (.int .i64 a) := HT.out.row.digit k a (by
        unfold someT
        have e1 : ((turnD A M).take k).length = k := by rw [List.length_take, turnD_length _ _ (by rw [LA.out, LM.out]), LA.out]; omega
        rw [List.getElem?_append_right (by omega), e1, Nat.sub_self, List.getElem?_drop, Nat.add_zero, pad_at A k (by rw [LA.out]; exact hlk), HA.out])
      have f0 : wr.frozen? ⟨b, 1 + k, none⟩ = false := HT.out.row.free _
      have c1 : wr.cell? ⟨w.heap.size, 1 + k, none⟩ = some (.int .i64 m) := HT.out.by_.digit k m (by rw [pad_at M k (by rw [LM.out]; exact hlk), HM.out])
      have hz : (pad ((passD A M).take k))[k]? = some 0 := by
        have e1 : ((passD A M).take k).length = k := by rw [List.length_take, passD_length _ _ (by rw [LA.out, LM.out]), LA.out]; omega
        exact pad_out _ _ (by omega) (by omega)
      have c2 : ∀ q v, ((wr.drewN q).setCell ⟨b, 1 + k, none⟩ v).cell? ⟨w.heap.size + 2, 1 + k, none⟩ = some (.int .i64 0) := fun q v => ((HT.out.passed.drewN q).other b (1 + k) v (by omega)).digit k 0 hz
      have f2 : ∀ q v, ((wr.drewN q).setCell ⟨b, 1 + k, none⟩ v).frozen? ⟨w.heap.size + 2, 1 + k, none⟩ = false := fun q v => ((HT.out.passed.drewN q).other b (1 + k) v (by omega)).free _
      clear hz
      have h12 : k < 12 := by omega
      have h12' : (k : Int) < 12 := by omega
      have hs : IntKind.i64.wrap (a + m) = a + m := IntWalk.i64_in _ (by omega)
      have hs0 : 0 ≤ a + m := by omega
      go_wp2
      go_quiet (fail)
      clear hs
      go_wp2
      go_roundw
      case rel => exact ⟨k + 1, by omega, by go_num, HT.out.step hn LA.out LM.out hlt hlk a m HA.out HM.out nq⟩
      case measure => simp [intOf]; omega
    · obtain rfl : k = n := by omega
      have l1 : (pad ((passD A M).take k)).length = 12 := pad_length _ (by rw [List.length_take]; omega)
      have SL := hidH (row_size k _ l1)
      have SE := hidH (show (rowC 0 (pad [])).size = (rowC k (pad ((passD A M).take k))).size by rw [rowC_size, rowC_size, l1]; rfl)
      have SO := hidH (row_one k (pad ((passD A M).take k)))
      have HS := hidH (RowAt.setRow HT.out.res k (pad ((passD A M).take k)))
      have PF : Hid ((passD A M).take k = passD A M) := List.take_of_length_le (by rw [passD_length _ _ (by rw [LA.out, LM.out]), LA.out]; exact Nat.le_refl _)
      have TF := hidH (someT_full (turnD A M) A k (by rw [turnD_length _ _ (by rw [LA.out, LM.out]), LA.out]) LA.out)
      clear l1
      go_wp2_with (first
        | (refine wpList_load_row rfl 124 _ rfl (w.heap.size + 2) rfl 124 _ (0, 0) _ HT.out.passed Tryd.underlying124 rfl SL.out ?_)
        | (refine wpList_store_row rfl 124 _ _ rfl (w.heap.size + 1) _ rfl rfl 124 _ HT.out.res SL.out SE.out SO.out ?_))
      refine bodyPost_ret (v := .agg (rowC k (pad ((passD A M).take k)))) ?_ rfl ⟨?_, ?_, ?_⟩
      · exact results_cell_row Tryd.results159 _ _ (w.heap.size + 1) 124 _ (0, 0) _ rfl HS.out Tryd.underlying124 rfl SL.out
      · rw [PF.out]
      · rw [← TF.out]
        exact HT.out.row.setRowOther _ _ (by omega)
      · exact HT.out.onto.setRow _ _ (by omega)
end Go.Proofs.YtffmhcahiabicaaDoor
