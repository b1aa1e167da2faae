/-
  The coefficients of powers of a polynomial: the model. No conditions but that slices fit in memory.
-/
import Derived.Test.YtgenniaklpheoaaPolyFg
namespace Go.Proofs.Ytgenniaklpheoaa
open Go.RowKit
/-- The coefficient before the j-th one. -/
def prevOf (c : List Int) (j : Nat) : Int := if j = 0 then 0 else c.getD (j - 1) 0
/-- The coefficients of a sum of powers times n - k. -/
def timesL (c : List Int) (k : Int) : List Int := (List.range (c.length + 1)).map fun (j : Nat) => prevOf c j - k * c.getD j 0
/-- The same list after i of its rounds. -/
def timesAt (c : List Int) (k : Int) (i : Nat) : List Int := (List.range (c.length + 1)).map fun (j : Nat) => if j < i then prevOf c j - k * c.getD j 0 else if j = i then prevOf c j else 0
theorem timesL_length (c : List Int) (k : Int) : (timesL c k).length = c.length + 1 := by simp [timesL]
theorem timesAt_length (c : List Int) (k : Int) (i : Nat) : (timesAt c k i).length = c.length + 1 := by simp [timesAt]
theorem timesAt_get (c : List Int) (k : Int) (i j : Nat) (h : j < c.length + 1) : (timesAt c k i)[j]? = some (if j < i then prevOf c j - k * c.getD j 0 else if j = i then prevOf c j else 0) := by simp [timesAt, h]
theorem timesAt_zero (c : List Int) (k : Int) : timesAt c k 0 = List.replicate (c.length + 1) 0 := by
  refine list_ext (by rw [timesAt_length, List.length_replicate]) fun j x y hx hy => ?_
  have hj : j < c.length + 1 := by have := (List.getElem?_eq_some_iff.1 hx).1; rwa [timesAt_length] at this
  rw [timesAt_get c k 0 j hj] at hx
  rw [List.getElem?_replicate, if_pos hj] at hy
  injection hx with hx
  injection hy with hy
  rw [← hx, ← hy, if_neg (Nat.not_lt_zero _)]
  split
  · rename_i h; subst h; rfl
  · rfl
theorem timesAt_all (c : List Int) (k : Int) : timesAt c k c.length = timesL c k := by
  refine list_ext (by rw [timesAt_length, timesL_length]) fun j x y hx hy => ?_
  have hj : j < c.length + 1 := by have := (List.getElem?_eq_some_iff.1 hx).1; rwa [timesAt_length] at this
  rw [timesAt_get c k _ j hj] at hx
  have hy2 : (timesL c k)[j]? = some (prevOf c j - k * c.getD j 0) := by simp [timesL, hj]
  rw [hy2] at hy
  injection hx with hx
  injection hy with hy
  rw [← hx, ← hy]
  split
  · rfl
  · rename_i h
    obtain rfl : j = c.length := by omega
    rw [if_pos rfl, List.getD_eq_getElem?_getD, List.getElem?_eq_none (Nat.le_refl _)]
    simp
theorem timesAt_step (c : List Int) (k : Int) (i : Nat) (x : Int) (hx : c[i]? = some x) : ((timesAt c k i).set (i + 1) x).set i (prevOf c i - k * x) = timesAt c k (i + 1) := by
  have hi := (List.getElem?_eq_some_iff.1 hx).1
  have hd : c.getD i 0 = x := by rw [List.getD_eq_getElem?_getD, hx]; rfl
  have hp : prevOf c (i + 1) = x := by rw [prevOf, if_neg (by omega), Nat.add_sub_cancel]; exact hd
  refine list_ext (by rw [List.length_set, List.length_set, timesAt_length, timesAt_length]) fun j y z hy hz => ?_
  have hj : j < c.length + 1 := by have := (List.getElem?_eq_some_iff.1 hz).1; rwa [timesAt_length] at this
  rw [timesAt_get c k _ j hj] at hz
  injection hz with hz
  rw [List.getElem?_set, List.getElem?_set, List.length_set, timesAt_length, timesAt_get c k _ j hj] at hy
  rw [← hz]
  by_cases h1 : i = j
  · subst h1
    rw [if_pos rfl, if_pos (by omega)] at hy
    injection hy with hy
    rw [← hy, if_pos (by omega), hd]
  · rw [if_neg h1] at hy
    by_cases h2 : i + 1 = j
    · subst h2
      rw [if_pos rfl, if_pos (by omega)] at hy
      injection hy with hy
      rw [← hy, if_neg (by omega), if_pos rfl, hp]
    · rw [if_neg h2] at hy
      injection hy with hy
      rw [← hy]
      by_cases h3 : j < i
      · rw [if_pos h3, if_pos (by omega)]
      · rw [if_neg h3, if_neg (by omega), if_neg (by omega), if_neg (by omega)]
theorem prev_bd (c : List Int) (hc : ∀ x ∈ c, x.natAbs ≤ 720) (j : Nat) : (prevOf c j).natAbs ≤ 720 := by
  unfold prevOf
  split
  · decide
  · rw [List.getD_eq_getElem?_getD]
    cases h : c[j - 1]?
    · decide
    · exact hc _ (List.mem_of_getElem? h)
set_option maxHeartbeats 2000000 in
theorem times_any (v : Value) (c : List Int) (k : Nat) (w : World) (lo hi : Nat) (hv : Lies w lo hi v c) (h0 : 0 < c.length) (h8 : c.length ≤ 8) (hk : k ≤ 6) (hcb : ∀ x ∈ c, x.natAbs ≤ 720) : Calls Try.prog 64 #[v, .int .i64 k] w fun e w' => ∃ b, e = .returned (.slice (some ⟨b, 0, none⟩) (c.length + 1) (c.length + 1)) ∧ w.heap.size ≤ b ∧ Blk w' b (timesL c k) ∧ Below w.heap.size w w' := by
  obtain ⟨b, off, cap, rfl, hlc, hcm, hl1, hh1, hbw, hcell⟩ := hv.addr h0
  unfold maxLen at hcm
  have HC := hidH hcell
  have HCB := hidH hcb
  clear hcell hcb hv
  have hmk := run_make_row' (P := Try.prog) 23 3 (.int .i64 0) 8 Try.underlying23 infoInt rfl .i64 .i64 (c.length + 1) (by omega) (by omega) w
  have HM := hidH (show (w.alloc (.cells (madeCells #[Value.int .i64 0] (c.length + 1)) 3)).heap[w.heap.size]? = some (.cells (ints (List.replicate (c.length + 1) 0)).toArray 3 (0, 0)) by rw [made_ints]; exact heap_alloc_new w _)
  have HBK0 := hidH (blk_of_heap (zs := List.replicate (c.length + 1) 0) HM.out)
  have HBA := hidH ((Below.refl w.heap.size w).alloc (Nat.le_refl _) (.cells (madeCells #[Value.int .i64 0] (c.length + 1)) 3))
  generalize hwa : w.alloc (.cells (madeCells #[Value.int .i64 0] (c.length + 1)) 3) = wa at *
  clear hwa HM
  rw [show ((c.length + 1 : Nat) : Int) = (c.length : Int) + 1 by omega] at hmk
  go_enter Try.func64, Try.ntmps64
  go_wp2_with fail
  go_loopw [6] (fun i wr => ∃ j : Nat, j ≤ c.length ∧ i = .int .i64 j ∧ Blk wr w.heap.size (timesAt c k j) ∧ Below w.heap.size w wr) (fun i _ => c.length - (intOf i).toNat)
  case atStart => exact ⟨0, Nat.zero_le _, rfl, by rw [timesAt_zero]; exact HBK0.out, HBA.out⟩
  case round =>
    obtain ⟨j, hj, rfl, hblk, hb⟩ := hrel
    have HBK := hidH hblk
    have HBq := hidH hb
    clear hblk hb
    by_cases hlt : j < c.length
    · obtain ⟨x, hx⟩ := get_lt c j hlt
      have hcx : wr.cell? ⟨b, off + j, none⟩ = some (.int .i64 x) := by rw [HBq.out.cell (p := ⟨b, off + j, none⟩) hbw]; exact HC.out j x hx
      have HCX := hidH (HC.out j x hx)
      have HGJ := hidH (show (timesAt c k j)[j]? = some (prevOf c j) by rw [timesAt_get c k j j (by omega), if_neg (by omega), if_pos rfl])
      have hxb := HCB.out x (List.mem_of_getElem? hx)
      have hpb := prev_bd c HCB.out j
      obtain ⟨hc1, hf1⟩ := HBK.out.2 (j + 1) 0 (by rw [timesAt_get c k j (j + 1) (by omega), if_neg (by omega), if_neg (by omega)])
      obtain ⟨hc2, hf2⟩ := HBK.out.2 j (prevOf c j) (by rw [timesAt_get c k j j (by omega), if_neg (by omega), if_pos rfl])
      have HST := hidH (timesAt_step c k j x hx)
      have v1 : IntKind.i64.wrap ((j : Int) + 1) = (j : Int) + 1 := IntWalk.i64_in _ (by omega)
      have v2 : IntKind.i64.wrap (0 + x) = x := by rw [Int.zero_add]; exact IntWalk.i64_in _ (by omega)
      have v3 : IntKind.i64.wrap x = x := IntWalk.i64_in _ (by omega)
      have hkx := abs_mul_le (a := (k : Int)) (b := x) (A := 6) (B := 720) (by omega) hxb
      have v4 : IntKind.i64.wrap ((k : Int) * x) = (k : Int) * x := IntWalk.i64_in _ (by omega)
      have v5 : IntKind.i64.wrap (prevOf c j - (k : Int) * x) = prevOf c j - (k : Int) * x := IntWalk.i64_in _ (by omega)
      generalize prevOf c j = y at *
      clear hx
      go_wp2_with fail
      go_region
      have HK2 := hidH ((HBK.out.set (j + 1) x).drewN 1)
      have HB2 := hidH ((HBq.out.setCell (p := ⟨w.heap.size, j + 1, none⟩) (Nat.le_refl _) (.int .i64 x)).drew)
      go_wp2_with fail
      clear hc1 hf1 hc2 hf2 hcx
      have HK2 := hidH (show Blk (wr.setCell ⟨w.heap.size, j + 1, none⟩ (.int .i64 x)).drew w.heap.size ((timesAt c k j).set (j + 1) x) from HK2.out)
      generalize (wr.setCell ⟨w.heap.size, j + 1, none⟩ (.int .i64 x)).drew = W2 at *
      have hcx2 : W2.cell? ⟨b, off + j, none⟩ = some (.int .i64 x) := by rw [HB2.out.cell (p := ⟨b, off + j, none⟩) hbw]; exact HCX.out
      obtain ⟨hc2, hf2⟩ := HK2.out.2 j y (by rw [List.getElem?_set, if_neg (by omega)]; exact HGJ.out)
      go_region
      go_wp2_with fail
      go_roundw
      case rel => exact ⟨j + 1, by omega, by go_num, by rw [← HST.out]; exact (HK2.out.set j _).drewN 1, (HB2.out.setCell (Nat.le_refl _) _).drew⟩
      case measure => simp [intOf]; omega
    · obtain rfl : j = c.length := by omega
      go_wp2_with fail
      go_ret
      exact ⟨_, rfl, Nat.le_refl _, by rw [← timesAt_all]; exact HBK.out, HBq.out⟩
end Go.Proofs.Ytgenniaklpheoaa
