/-
  One time of carries of a row of wheels. Condition: the row and the marks have the same width, between 1 and 12.
-/
import Derived.Test.YtckmnclpediliaaDoorRowD
import Derived.StillTailTactics
import Derived.Laws.CopyRow
namespace Go.Proofs.YtckmnclpediliaaDoor
set_option maxRecDepth 4000
open Go.RowKit
/-- The marks moved up by one wheel, as copy moves them. -/
theorem up_cells (n : Nat) (M : List Int) (hn1 : 1 ≤ n) (hn : n ≤ 12) (hM : M.length = n) : ((rowC n (pad [])).toList.take 2 ++ (M.take (n - 1)).map (Value.int .i64) ++ (rowC n (pad [])).toList.drop (2 + ((M.take (n - 1)).map (Value.int .i64)).length)).toArray = rowC n (pad (upD M)) := by
  obtain ⟨m, rfl⟩ : ∃ m, n = m + 1 := ⟨n - 1, by omega⟩
  have l1 : (M.take m).length = m := by rw [List.length_take]; omega
  have e0 : upD M = 0 :: M.take m := by unfold upD; rw [hM]; rfl
  have ez : pad [] = List.replicate 12 0 := rfl
  rw [e0, ez]
  unfold rowC pad
  rw [Nat.add_sub_cancel, List.length_map, l1]
  apply congrArg List.toArray
  rw [show List.replicate 12 (0 : Int) = 0 :: List.replicate 11 0 from rfl, List.length_cons, l1]
  rw [List.map_cons, List.take_succ_cons, List.take_succ_cons, List.take_zero, Nat.add_comm 2 m, List.drop_succ_cons, List.drop_succ_cons]
  simp only [List.map_append, List.map_cons, List.map_replicate, List.cons_append, List.nil_append, List.drop_replicate]
  rw [show 11 - m = 12 - (m + 1) by omega]
theorem copy_up (W : World) (h n : Nat) (M : List Int) (hn1 : 1 ≤ n) (hn : n ≤ 12) (hM : M.length = n) (rM : RowAt W h n (pad M)) (rP : RowAt W (h + 2) n (pad [])) :
    (Builtin.copy_ #[55, 55] 3 #[.slice (some ⟨h + 2, 2, none⟩) (n - 1) 11, .slice (some ⟨h, 1, none⟩) 12 12]).run Tryd.prog W.drew = .ok (goInt (n - 1 : Nat)) (W.drew.setRow (h + 2) (rowC n (pad (upD M)))) := by
  have l0 : (M.take (n - 1)).length = n - 1 := by rw [List.length_take]; omega
  have hr := run_copy_row (P := Tryd.prog) W.drew 55 55 3 3 (h + 2) 2 (n - 1) 11 ⟨h, 1, none⟩ 12 12 (rowC n (pad [])) 31 ((M.take (n - 1)).map (Value.int .i64)) Tryd.underlying55 (by kernel_rfl) rP (by rw [List.length_map, l0]; exact (Nat.min_eq_right (by omega : n - 1 ≤ 12)).symm) ?_ (by rw [List.length_map, l0, rowC_size]; show 2 + (n - 1) ≤ 12 + 1; omega) (fun v hv => by obtain ⟨x, _, rfl⟩ := List.mem_map.1 hv; rfl)
  · rw [up_cells n M hn1 hn hM, List.length_map, l0] at hr
    exact hr
  · intro j v hj
    rw [List.getElem?_map] at hj
    have hjl : j < (M.take (n - 1)).length := by
      cases e : (M.take (n - 1))[j]? with
      | none => rw [e] at hj; simp at hj
      | some x => exact (List.getElem?_eq_some_iff.1 e).1
    have hx : (M.take (n - 1))[j]? = M[j]? := by rw [List.getElem?_take, if_pos (by omega)]
    rw [hx, List.getElem?_eq_getElem (by omega)] at hj
    have ea : (⟨h, 1, none⟩ : Addr).add j = ⟨h, 1 + j, none⟩ := by simp [Addr.add]
    rw [ea]
    have := rM.digit j (M[j]'(by omega)) (by rw [pad_at M j (by omega), List.getElem?_eq_getElem (by omega)])
    simp only [Option.map_some, Option.some.injEq] at hj
    rw [← hj]
    exact this
/-- A slice of the wheels above the lowest one. -/
theorem slice_up (W : World) (h n : Nat) (hn1 : 1 ≤ n) (hn : n ≤ 12) : (Instr.sliceAt 29 (.pointer (some ⟨h, 1, none⟩)) (some (.int .i64 1)) (some (.int .i64 n)) none).run Tryd.prog W = .ok (.slice (some ⟨h, 2, none⟩) (n - 1) 11) W := by
  have ha : Tryd.prog.arrayLen 29 = 12 := by kernel_rfl
  have he : Tryd.prog.elem 29 = 3 := by kernel_rfl
  rw [run_sliceAt_array_lh W 29 ⟨h, 1, none⟩ Tryd.underlying29 .i64 .i64 1 n (by decide) (by omega) (by rw [ha]; omega), ha, he, Tryd.sizeOf3 W]
  simp [Result.andThen, slicedAt, Addr.add]
set_option maxHeartbeats 1600000 in
theorem once_any (b n : Nat) (A M : List Int) (hn1 : 1 ≤ n) (hn : n ≤ 12) (hA : A.length = n) (hM : M.length = n) (dA : digs A) (dM : digs M) (w : World) (hR : RowAt w b n (pad A)) :
    Calls Tryd.prog 24 #[.pointer (some ⟨b, 0, none⟩), .agg (rowC n (pad M))] w fun e w' => e = .returned (.agg (rowC n (pad (passD A (upD M))))) ∧ RowAt w' b n (pad (turnD A (upD M))) ∧ Onto b w w' := by
  have hlt := hR.lt
  have hw1 : ∀ X, (w.alloc X).cell? ⟨b, 0, none⟩ = some (.int .i64 n) := fun X => (hR.alloc X).width
  have hw2 : ∀ X Y, ((w.alloc X).alloc Y).cell? ⟨b, 0, none⟩ = some (.int .i64 n) := fun X Y => ((hR.alloc X).alloc Y).width
  have hw3 : ∀ X Y Z, (((w.alloc X).alloc Y).alloc Z).cell? ⟨b, 0, none⟩ = some (.int .i64 n) := fun X Y Z => (((hR.alloc X).alloc Y).alloc Z).width
  have LA := hidH hA
  have LM := hidH hM
  have HR := hidH hR
  have DA := hidH dA
  have DM := hidH dM
  clear hR hA hM dA dM
  go_enter Tryd.func24, Tryd.ntmps24
  go_wp2
  clear hw1 hw2 hw3
  generalize hW : World.alloc (World.alloc (World.alloc w _) _) _ = W
  rw [← rowC_start, ← rowC_start] at hW
  have rB : RowAt W b n (pad A) := by rw [← hW]; exact ((HR.out.alloc _).alloc _).alloc _
  have rM : RowAt W w.heap.size n (pad M) := by rw [← hW]; exact ((RowAt.fresh w n (pad M)).alloc _).alloc _
  have rZ : RowAt W (w.heap.size + 1) 0 (pad []) := by
    rw [← hW]
    have := (RowAt.fresh (w.alloc (.cells (rowC n (pad M)) 31)) 0 (pad [])).alloc (.cells (rowC n (pad [])) 31)
    simpa using this
  have rP : RowAt W (w.heap.size + 2) n (pad []) := by
    rw [← hW]
    have := RowAt.fresh ((w.alloc (.cells (rowC n (pad M)) 31)).alloc (.cells (rowC 0 (pad [])) 31)) n (pad [])
    simpa using this
  have oW : Onto b w W := by rw [← hW]; exact (((Onto.refl _ _).alloc _).alloc _).alloc _
  clear hW
  have f0 := rB.width
  have hsl := slice_up W.drew (w.heap.size + 2) n hn1 hn
  have hcp := copy_up W w.heap.size n M hn1 hn LM.out rM rP
  have RB := hidH rB
  have RZ := hidH rZ
  have RP := hidH rP
  have OW := hidH oW
  clear rB rM rZ rP oW
  go_region
  clear hsl hcp f0
  have uD : digs (upD M) := upD_digs M DM.out
  have uL : (upD M).length = n := by rw [upD_length, LM.out]
  have sB : RowAt (W.drew.setRow (w.heap.size + 2) (rowC n (pad (upD M)))) b n (pad A) := RowAt.setRowOther (RowAt.drewN RB.out 1) _ _ (by omega)
  have sP : RowAt (W.drew.setRow (w.heap.size + 2) (rowC n (pad (upD M)))) (w.heap.size + 2) n (pad (upD M)) := RowAt.setRow (RowAt.drewN RP.out 1) n (pad (upD M))
  have sZ : RowAt (W.drew.setRow (w.heap.size + 2) (rowC n (pad (upD M)))) (w.heap.size + 1) 0 (pad []) := RowAt.setRowOther (RowAt.drewN RZ.out 1) _ _ (by omega)
  have sO : Onto b w (W.drew.setRow (w.heap.size + 2) (rowC n (pad (upD M)))) := (OW.out.drewN 1).setRow _ _ (by omega)
  have HB := hidH (turn_any b n A (upD M) hn LA.out uL DA.out uD _ sB)
  have SP := hidH sP
  have SZ := hidH sZ
  have SO := hidH sO
  clear sB sP sZ sO uD
  generalize W.drew.setRow (w.heap.size + 2) (rowC n (pad (upD M))) = V at *
  have l1 : (pad (upD M)).length = 12 := pad_length _ (by omega)
  have l2 : (pad (passD A (upD M))).length = 12 := pad_length _ (by rw [passD_length _ _ (by rw [LA.out, uL]), LA.out]; exact hn)
  have S1 := hidH (row_size n _ l1)
  have S2 := hidH (row_size n _ l2)
  have SE := hidH (show (rowC 0 (pad [])).size = (rowC n (pad (passD A (upD M)))).size by rw [rowC_size, rowC_size, l2]; rfl)
  have SN := hidH (row_one n (pad (passD A (upD M))))
  clear l1 l2 uL
  go_wp2_with (first
    | (refine wpList_load_row rfl 31 _ rfl (w.heap.size + 2) rfl 31 _ (0, 0) _ SP.out Tryd.underlying31 rfl S1.out ?_)
    | fail)
  refine HB.out.mono ?_
  rintro e w' ⟨rfl, hT, hO⟩
  have tZ : RowAt w' (w.heap.size + 1) 0 (pad []) := SZ.out.onto hO (by omega)
  have HS := hidH (RowAt.setRow tZ n (pad (passD A (upD M))))
  have TZ := hidH tZ
  have HT := hidH hT
  have HO := hidH hO
  clear tZ hT hO
  go_wp2_with (refine wpList_store_row rfl 31 _ _ rfl (w.heap.size + 1) _ rfl rfl 31 _ TZ.out S2.out SE.out SN.out ?_)
  refine bodyPost_ret (v := .agg (rowC n (pad (passD A (upD M))))) ?_ rfl ⟨rfl, ?_, ?_⟩
  · exact results_cell_row Tryd.results24 _ _ (w.heap.size + 1) 31 _ (0, 0) _ rfl HS.out Tryd.underlying31 rfl S2.out
  · exact HT.out.setRowOther _ _ (by omega)
  · exact (SO.out.trans HO.out).setRow _ _ (by omega)
end Go.Proofs.YtckmnclpediliaaDoor
