/-
  One time of carries of a row of wheels. Condition: the row and the marks have the same width, between 1 and 12.
-/
import Derived.Test.YtffmhcahiabicaaDoorRowD
import Derived.StillTailTactics
import Derived.Laws.CopyRow
namespace Go.Proofs.YtffmhcahiabicaaDoor
set_option maxRecDepth 4000
open Go.RowKit
/-- The marks moved up by one wheel, as copy moves them. -/
theorem up_cells (n : Nat) (M : List Int) (hn1 : 1 ≤ n) (hn : n ≤ 12) (hM : M.length = n) : ((rowC n (pad [])).toList.take 2 ++ (M.take (n - 1)).map (Value.int .i64) ++ (rowC n (pad [])).toList.drop (2 + ((M.take (n - 1)).map (Value.int .i64)).length)).toArray = rowC n (pad (upD M)) := by
  obtain ⟨m, rfl⟩ : ∃ m, n = m + 1 := ⟨n - 1, by omega⟩
  have l1 : (M.take m).length = m := by rw [List.length_take]; omega
  have e0 : upD M = 0 :: M.take m := by unfold upD; rw [hM]; rfl
  have ez : pad [] = List.replicate 12 0 := rfl
  rw [e0, ez]
  unfold rowC pad
  rw [Nat.add_sub_cancel, List.length_map, l1]
  apply congrArg List.toArray
  rw [show List.replicate 12 (0 : Int) = 0 :: List.replicate 11 0 from rfl, List.length_cons, l1]
  rw [List.map_cons, List.take_succ_cons, List.take_succ_cons, List.take_zero, Nat.add_comm 2 m, List.drop_succ_cons, List.drop_succ_cons]
  simp only [List.map_append, List.map_cons, List.map_replicate, List.cons_append, List.nil_append, List.drop_replicate]
  rw [show 11 - m = 12 - (m + 1) by omega]
theorem copy_up (W : World) (h n : Nat) (M : List Int) (hn1 : 1 ≤ n) (hn : n ≤ 12) (hM : M.length = n) (rM : RowAt W h n (pad M)) (rP : RowAt W (h + 2) n (pad [])) :
    (Builtin.copy_ #[41, 41] 3 #[.slice (some ⟨h + 2, 2, none⟩) (n - 1) 11, .slice (some ⟨h, 1, none⟩) 12 12]).run Tryd.prog W.drew = .ok (goInt (n - 1 : Nat)) (W.drew.setRow (h + 2) (rowC n (pad (upD M)))) := by
  have l0 : (M.take (n - 1)).length = n - 1 := by rw [List.length_take]; omega
  have hr := run_copy_row (P := Tryd.prog) W.drew 41 41 3 3 (h + 2) 2 (n - 1) 11 ⟨h, 1, none⟩ 12 12 (rowC n (pad [])) 124 ((M.take (n - 1)).map (Value.int .i64)) Tryd.underlying41 (by kernel_rfl) rP (by rw [List.length_map, l0]; exact (Nat.min_eq_right (by omega : n - 1 ≤ 12)).symm) ?_ (by rw [List.length_map, l0, rowC_size]; show 2 + (n - 1) ≤ 12 + 1; omega) (fun v hv => by obtain ⟨x, _, rfl⟩ := List.mem_map.1 hv; rfl)
  · rw [up_cells n M hn1 hn hM, List.length_map, l0] at hr
    exact hr
  · intro j v hj
    rw [List.getElem?_map] at hj
    have hjl : j < (M.take (n - 1)).length := by
      cases e : (M.take (n - 1))[j]? with
      | none => rw [e] at hj; simp at hj
      | some x => exact (List.getElem?_eq_some_iff.1 e).1
    have hx : (M.take (n - 1))[j]? = M[j]? := by rw [List.getElem?_take, if_pos (by omega)]
    rw [hx, List.getElem?_eq_getElem (by omega)] at hj
    have ea : (⟨h, 1, none⟩ : Addr).add j = ⟨h, 1 + j, none⟩ := by simp [Addr.add]
    rw [ea]
    have := rM.digit j (M[j]'(by omega)) (by rw [pad_at M j (by omega), List.getElem?_eq_getElem (by omega)])
    simp only [Option.map_some, Option.some.injEq] at hj
    rw [← hj]
    exact this
/-- A slice of the wheels above the lowest one. -/
theorem slice_up (W : World) (h n : Nat) (hn1 : 1 ≤ n) (hn : n ≤ 12) : (Instr.sliceAt 122 (.pointer (some ⟨h, 1, none⟩)) (some (.int .i64 1)) (some (.int .i64 n)) none).run Tryd.prog W = .ok (.slice (some ⟨h, 2, none⟩) (n - 1) 11) W := by
  have ha : Tryd.prog.arrayLen 122 = 12 := by kernel_rfl
  have he : Tryd.prog.elem 122 = 3 := by kernel_rfl
  rw [run_sliceAt_array_lh W 122 ⟨h, 1, none⟩ Tryd.underlying122 .i64 .i64 1 n (by decide) (by omega) (by rw [ha]; omega), ha, he, Tryd.sizeOf3 W]
  simp [Result.andThen, slicedAt, Addr.add]
end Go.Proofs.YtffmhcahiabicaaDoor
