/-
  The walks of the program's binomial coefficients and values of polynomials, and of the model's. Conditions: arguments between -300 and 300 and valid polynomials where a contract says so.
  Differences of a list and its first differences: the program. Condition: slices of at most 1048576 numbers.
-/
import Derived.Test.YtgnoclnenhmakaaPolyS
import Derived.Test.YtgnoclnenhmakaaPolyV
import Derived.IntWalk
import Derived.Test.YtgnoclnenhmakaaSl
import Derived.Laws.CopyOwn
import Derived.BigRegion
namespace Go.Proofs.Ytgnoclnenhmakaa
set_option maxRecDepth 4000
open Go.RowKit
theorem binom_any (n : Int) (h1 : -300 ≤ n) (h2 : n ≤ 300) (k : Nat) (hk : k ≤ 6) (w : World) : Calls Try.prog 106 #[.int .i64 n, .int .i64 k] w fun e w' => e = .returned (.int .i64 (chN n k)) ∧ w = w' := by
  go_enter Try.func106, Try.ntmps106
  go_wp2
  go_loop [5, 8] (fun o i => ∃ j : Nat, j ≤ k ∧ i = .int .i64 j ∧ o = .int .i64 (chN n j)) (fun _ i => k - (intOf i).toNat)
  case atStart => exact ⟨0, Nat.zero_le _, rfl, rfl⟩
  case round =>
    obtain ⟨j, hj, rfl, rfl⟩ := hrel
    by_cases hlt : j < k
    · have ⟨b1, b2⟩ := chN_mul_bd n h1 h2 j (by omega)
      have ⟨b3, b4⟩ := chN_bd n h1 h2 j (by omega)
      have ⟨b5, b6⟩ := chN_bd n h1 h2 (j + 1) (by omega)
      go_wp2
      go_round
      case rel => exact ⟨j + 1, by omega, by go_num, by rw [chN]⟩
      case measure => simp [intOf]; omega
    · go_wp2
      obtain rfl : j = k := by omega
      go_ret
      exact ⟨rfl, rfl⟩
theorem ev_take (n : Int) (zs : List Int) (k : Nat) (z : Int) (hz : zs[k]? = some z) : evP (zs.take (k + 1)) n = evP (zs.take k) n + z * chN n k := by
  have hk := (List.getElem?_eq_some_iff.1 hz).1
  unfold evP
  rw [List.take_add_one, hz, Option.toList_some, ev_snoc, List.length_take, Nat.zero_add, Nat.min_eq_left (by omega)]
theorem Small.take {p : List Int} (h : Small p) (k : Nat) : Small (p.take k) := ⟨by rw [List.length_take]; have := h.1; omega, fun x hx => h.2 x (List.mem_of_mem_take hx)⟩
theorem term_bd (z n : Int) (h1 : -300 ≤ n) (h2 : n ≤ 300) (k : Nat) (hk : k ≤ 6) (hz : -100000 ≤ z ∧ z ≤ 100000) : -120000000000000000 ≤ z * chN n k ∧ z * chN n k ≤ 120000000000000000 := by
  have ⟨a, b⟩ := chN_bd n h1 h2 k hk
  have h := abs_mul_le (a := z) (b := chN n k) (A := 100000) (B := 1200000000000) (by omega) (by omega)
  omega
theorem binom_same (n : Int) (h1 : -300 ≤ n) (h2 : n ≤ 300) (k : Nat) (hk : k ≤ 6) (w : World) : Calls Try.prog 106 #[.int .i64 n, .int .i64 k] w fun e w' => e = .returned (.int .i64 (chN n k)) ∧ w' = w :=
  (binom_any n h1 h2 k hk w).mono fun _ _ ⟨a, b⟩ => ⟨a, b.symm⟩
set_option maxHeartbeats 400000 in
theorem sEvalL_any (v : Value) (zs : List Int) (n : Int) (h1 : -300 ≤ n) (h2 : n ≤ 300) (hs : Small zs) (w : World) (lo hi : Nat) (hv : Lies w lo hi v zs) : Calls Try.prog 91 #[v, .int .i64 n] w fun e w' => e = .returned (.int .i64 (evP zs n)) ∧ ∃ q, w' = w.drewN q := by
  obtain ⟨a, cap, rfl, hlc, hcm, hnil, hcell⟩ := hv
  unfold maxLen at hcm
  have HC := hidH hcell
  have HS := hidH hs
  have hl7 := hs.1
  clear hcell hnil hs
  go_enter Try.func91, Try.ntmps91
  go_wp2_with fail
  go_loopw [5, 6] (fun o i wr => ∃ k : Nat, k ≤ zs.length ∧ i = .int .i64 k ∧ o = .int .i64 (evP (zs.take k) n) ∧ ∃ q, wr = w.drewN q) (fun _ i _ => zs.length - (intOf i).toNat)
  case atStart => exact ⟨0, Nat.zero_le _, rfl, rfl, 0, rfl⟩
  case round =>
    obtain ⟨k, hk, rfl, rfl, hw⟩ := hrel
    have HW := hidH hw
    clear hw
    by_cases hlt : k < zs.length
    · obtain ⟨z, hz⟩ := get_lt zs k hlt
      obtain ⟨b, off, rfl, _, _, hc⟩ := HC.out k z hz
      have ⟨b1, b2⟩ := (HS.out.take k).bd n h1 h2
      have ⟨b3, b4⟩ := term_bd z n h1 h2 k (by omega) (HS.out.2 z (List.mem_of_getElem? hz))
      have HT := hidH (ev_take n zs k z hz)
      have v1 : IntKind.i64.wrap (z * chN n k) = z * chN n k := IntWalk.i64_in _ (by omega)
      have v2 : IntKind.i64.wrap (evP (zs.take k) n + z * chN n k) = evP (zs.take k) n + z * chN n k := IntWalk.i64_in _ (by omega)
      have hcw : wr.cell? ⟨b, off + k, none⟩ = some (.int .i64 z) := by obtain ⟨q, rfl⟩ := HW.out; rw [World.cell?_drewN]; exact hc
      clear hz hc
      go_wp2_with fail
      go_quiet ((go_at_call 103; exact Calls.quiet_of_same (sChoose_same n h1 h2 k (by omega) _)))
      clear v1 v2
      go_wp2
      go_roundw
      case rel => exact ⟨k + 1, by omega, by go_num, by rw [HT.out], by obtain ⟨q, rfl⟩ := HW.out; exact ⟨q + nq, by rw [World.drewN_drewN]⟩⟩
      case measure => simp [intOf]; omega
    · obtain rfl : k = zs.length := by omega
      go_wp2
      go_ret
      exact ⟨by rw [List.take_of_length_le (Nat.le_refl _)]; rfl, HW.out⟩
set_option maxHeartbeats 400000 in
theorem valueAt_any (v : Value) (zs : List Int) (n : Int) (h1 : -300 ≤ n) (h2 : n ≤ 300) (hs : Small zs) (w : World) (lo hi : Nat) (hv : Lies w lo hi v zs) : Calls Try.prog 99 #[v, .int .i64 n] w fun e w' => e = .returned (.int .i64 (evP zs n)) ∧ ∃ q, w' = w.drewN q := by
  obtain ⟨a, cap, rfl, hlc, hcm, hnil, hcell⟩ := hv
  unfold maxLen at hcm
  have HC := hidH hcell
  have HS := hidH hs
  have hl7 := hs.1
  clear hcell hnil hs
  go_enter Try.func99, Try.ntmps99
  go_wp2_with fail
  go_loopw [5, 9] (fun o i wr => ∃ k : Nat, k ≤ zs.length ∧ i = .int .i64 k ∧ o = .int .i64 (evP (zs.take k) n) ∧ ∃ q, wr = w.drewN q) (fun _ i _ => zs.length - (intOf i).toNat)
  case atStart => exact ⟨0, Nat.zero_le _, rfl, rfl, 0, rfl⟩
  case round =>
    obtain ⟨k, hk, rfl, rfl, hw⟩ := hrel
    have HW := hidH hw
    clear hw
    by_cases hlt : k < zs.length
    · obtain ⟨z, hz⟩ := get_lt zs k hlt
      obtain ⟨b, off, rfl, _, _, hc⟩ := HC.out k z hz
      have ⟨b1, b2⟩ := (HS.out.take k).bd n h1 h2
      have ⟨b3, b4⟩ := term_bd z n h1 h2 k (by omega) (HS.out.2 z (List.mem_of_getElem? hz))
      have HT := hidH (ev_take n zs k z hz)
      have v1 : IntKind.i64.wrap (z * chN n k) = z * chN n k := IntWalk.i64_in _ (by omega)
      have v2 : IntKind.i64.wrap (evP (zs.take k) n + z * chN n k) = evP (zs.take k) n + z * chN n k := IntWalk.i64_in _ (by omega)
      have hcw : wr.cell? ⟨b, off + k, none⟩ = some (.int .i64 z) := by obtain ⟨q, rfl⟩ := HW.out; rw [World.cell?_drewN]; exact hc
      clear hz hc
      go_wp2_with fail
      go_quiet ((go_at_call 106; exact Calls.quiet_of_same (binom_same n h1 h2 k (by omega) _)))
      clear v1 v2
      go_wp2
      go_roundw
      case rel => exact ⟨k + 1, by omega, by go_num, by rw [HT.out], by obtain ⟨q, rfl⟩ := HW.out; exact ⟨q + nq, by rw [World.drewN_drewN]⟩⟩
      case measure => simp [intOf]; omega
    · obtain rfl : k = zs.length := by omega
      go_wp2
      go_ret
      exact ⟨by rw [List.take_of_length_le (Nat.le_refl _)]; rfl, HW.out⟩
end Go.Proofs.Ytgnoclnenhmakaa
namespace Go.Proofs.Ytgnoclnenhmakaa
set_option maxRecDepth 4000
open Go.RowKit
theorem wrap_i (x : Int) : IntKind.i64.wrap x = wrap64 x := by rw [IntKind.wrap_i64]; unfold wrap64; omega
theorem made_ints (n : Nat) : madeCells #[Value.int .i64 0] n = (ints (List.replicate n 0)).toArray := by
  unfold madeCells ints
  apply Array.ext
  · simp
  · intro i h1 h2
    simp [Nat.mod_one]
theorem blk_of_heap {w : World} {g t : Nat} {zs : List Int} (h : w.heap[g]? = some (.cells (ints zs).toArray t (0, 0))) : Blk w g zs := by
  have hlt : g < w.heap.size := (Array.getElem?_eq_some_iff.1 h).1
  refine ⟨hlt, fun j z hj => ⟨?_, ?_⟩⟩
  · unfold World.cell?
    rw [h]
    simp [ints, hj]
  · unfold World.frozen?
    rw [h]
    simp
theorem splice_whole (A B : List Int) (h : A.length = B.length) : splice (ints A) 0 (ints B) = ints B := by
  simp [splice, ints, h]
theorem diffs_any (v : Value) (x : Int) (ys : List Int) (w : World) (lo hi : Nat) (hv : Lies w lo hi v (x :: ys)) (hn : ys.length ≤ 1048576) : Calls Try.prog 93 #[v] w (NewRow (difW (x :: ys)) w) := by
  obtain ⟨b, off, cap, rfl, hlc, hcm, hl1, hh1, hbw, hcell⟩ := hv.addr (by simp)
  have HC := hidH hcell
  have hl2 : (x :: ys).length = ys.length + 1 := rfl
  rw [hl2] at hlc ⊢
  have HDL := hidH (show (difW (x :: ys)).length = ys.length by rw [difW_length]; rfl)
  have hmk := run_make_row' (P := Try.prog) 28 3 (.int .i64 0) 8 Try.underlying28 infoInt rfl .i64 .i64 ys.length (by omega) (by omega) w
  have HM := hidH (show (w.alloc (.cells (madeCells #[Value.int .i64 0] ys.length) 3)).heap[w.heap.size]? = some (.cells (ints (List.replicate ys.length 0)).toArray 3 (0, 0)) by rw [made_ints]; exact heap_alloc_new w _)
  have HSP := hidH (splice_whole (List.replicate ys.length 0) ys (by simp))
  have HY := hidH (cells_map (zs := ys) (b := b) (off := off + 1) (w := w) fun j z hj => by
    have := hcell (j + 1) z (by simpa using hj)
    rwa [show off + 1 + j = off + (j + 1) by omega])
  have HLI := hidH (show (ints ys).length = Nat.min ys.length ys.length by rw [ints_length]; exact (Nat.min_self _).symm)
  have HLE := hidH (show 0 + (ints ys).length ≤ (ints (List.replicate ys.length 0)).length by rw [ints_length, ints_length, List.length_replicate]; omega)
  clear hcell hv hl2
  unfold maxLen at hcm
  by_cases hcap : cap = 1
  · obtain rfl : ys = [] := List.eq_nil_of_length_eq_zero (by omega)
    subst hcap
    have hmk0 : (Instr.makeSlice 28 (.int .i64 0) (.int .i64 0)).run Try.prog w = .ok (.slice (some ⟨w.heap.size, 0, none⟩) 0 0) (w.alloc (.cells (madeCells #[Value.int .i64 0] 0) 3)) := hmk
    have hcp : ∀ W, (Builtin.copy_ #[28, 28] 3 #[.slice (some ⟨w.heap.size, 0, none⟩) 0 0, .slice (some ⟨b, off, none⟩) 0 0]).run Try.prog W = .ok (goInt 0) W := fun W => run_copy_none (P := Try.prog) W _ _ _ 3 _ _ 0 0 0 0 Try.underlying28 (by kernel_rfl) rfl
    clear hmk
    go_enter Try.func93, Try.ntmps93
    go_wp2_with fail
    go_loop [15] (fun i => i = .int .i64 0) (fun _ => 0)
    case atStart => rfl
    case round =>
      obtain rfl := hrel
      go_wp2_with fail
      go_ret
      exact ⟨_, rfl, Row.nil _ _ _ _ _ (Nat.zero_le _) (fun _ => rfl), (Below.refl _ _).alloc (Nat.le_refl _) _⟩
  · have hncap : ¬ cap = 1 := hcap
    clear hcap
    go_enter Try.func93, Try.ntmps93
    go_wp2_with (with_reducible refine wpList_copy_splice rfl _ _ _ _ rfl 3 Try.underlying28 (by kernel_rfl) (some ⟨w.heap.size, 0, none⟩) (some ⟨b, off + 1, none⟩) ys.length ys.length ys.length (cap - 1) rfl rfl w.heap.size 0 (ints (List.replicate ys.length 0)) 3 HM.out (ints ys) HLI.out (fun _ => ⟨rfl, _, rfl, HY.out _ ((Below.refl _ _).alloc (Nat.le_refl _) _)⟩) HLE.out (oneCells ys) w.heap.size w ((Below.refl _ _).alloc (Nat.le_refl _) _) (Nat.le_refl _) ?_)
    intro w1 hheap hB
    have HH := hidH hheap
    have HB := hidH hB
    clear hheap hB
    go_wp2_with fail
    go_loopw [15] (fun i wr => ∃ k : Nat, k ≤ ys.length ∧ i = .int .i64 k ∧ Blk wr w.heap.size (over (difW (x :: ys)) ys k) ∧ Below w.heap.size w wr) (fun i _ => ys.length - (intOf i).toNat)
    case atStart => exact ⟨0, Nat.zero_le _, rfl, by rw [over_zero]; exact blk_of_heap (zs := ys) (by have := HH.out.out; rw [HSP.out] at this; exact this), HB.out⟩
    case round =>
      obtain ⟨k, hk, rfl, hblk, hb⟩ := hrel
      have HBK := hidH hblk
      have HB2 := hidH hb
      clear hblk hb
      by_cases hlt : k < ys.length
      · obtain ⟨z, hz⟩ := get_lt (x :: ys) k (by rw [List.length_cons]; omega)
        obtain ⟨y, hy⟩ := get_lt ys k hlt
        have hc0 := HC.out k z hz
        have hcr : wr.cell? ⟨b, off + k, none⟩ = some (.int .i64 z) := by rw [HB2.out.cell (p := ⟨b, off + k, none⟩) (cell_blk _ _ _ hc0)]; exact hc0
        obtain ⟨hcn, hfr⟩ := HBK.out.2 k y (by rw [over_get _ _ _ HDL.out hlt]; exact hy)
        have HD := hidH (difW_get (x :: ys) k z y hz (by simpa using hy))
        clear hz hy hc0
        go_wp2_with fail
        go_region
        go_wp2_with fail
        go_roundw
        case rel => exact ⟨k + 1, by omega, by go_num, by rw [← over_set _ _ k _ HDL.out HD.out, ← wrap_i]; exact (HBK.out.set k _).drewN 1, (HB2.out.setCell (Nat.le_refl _) _).drew⟩
        case measure => simp [intOf]; omega
      · obtain rfl : k = ys.length := by omega
        go_wp2_with fail
        go_ret
        have hk := HBK.out
        rw [over_all _ _ HDL.out] at hk
        exact ⟨_, rfl, hk.row (Nat.le_refl _) hk.1 (by rw [HDL.out]; exact Nat.le_refl _) (by unfold maxLen; omega) HDL.out.symm, HB2.out⟩
theorem fill_row {w : World} {b : Nat} {T : List Int} (H : Blk w b (fill T T.length)) : Blk w b T := by rwa [fill_all] at H
theorem lead_any (v : Value) (zs : List Int) (m : Nat) (w : World) (lo hi : Nat) (hv : Lies w lo hi v zs) (hm : m ≤ zs.length) (hn : zs.length ≤ 1048576) : Calls Try.prog 98 #[v, .int .i64 m] w (NewRow (leadW m zs) w) := by
  have HV := hidH hv.top
  have HM := hidH (Blk.made w 3 m)
  have HLL := hidH (leadW_length m zs)
  have hmk := run_make_row' (P := Try.prog) 28 3 (.int .i64 0) 8 Try.underlying28 infoInt rfl .i64 .i64 m (by omega) (by omega) w
  clear hv
  go_enter Try.func98, Try.ntmps98
  go_wp2_with fail
  go_loopw [0, 10] (fun vs i wr => ∃ (k : Nat) (cv : Value) (l h : Nat), k ≤ m ∧ i = .int .i64 k ∧ cv = vs ∧ Lies wr l h cv (difN k zs) ∧ (h ≤ w.heap.size ∨ w.heap.size < l) ∧ Blk wr w.heap.size (fill (leadW m zs) k) ∧ Below w.heap.size w wr) (fun _ i _ => m - (intOf i).toNat)
  case atStart => exact ⟨0, v, 0, w.heap.size, Nat.zero_le _, rfl, rfl, HV.out.below ((Below.refl _ _).alloc (Nat.le_refl _) _), .inl (Nat.le_refl _), by have := HM.out; rw [fill_zero, HLL.out]; exact this, (Below.refl _ _).alloc (Nat.le_refl _) _⟩
  case round =>
    obtain ⟨k, cv, l, h, hk, rfl, rfl, hl, hd, hblk, hb⟩ := hrel
    have HBK := hidH hblk
    have HB := hidH hb
    clear hblk hb
    by_cases hlt : k < m
    · obtain ⟨x, ys, hxy⟩ : ∃ x ys, difN k zs = x :: ys := by
        cases e : difN k zs with
        | nil => have := difN_length k zs; rw [e] at this; simp at this; omega
        | cons x ys => exact ⟨x, ys, rfl⟩
      have hyl : ys.length ≤ 1048576 := by have := difN_length k zs; rw [hxy] at this; simp at this; omega
      rw [hxy] at hl
      have HL := hidH hl
      obtain ⟨b, off, cap, rfl, hlc, hcm, hl1, hh1, hbw, hcell⟩ := hl.addr (by simp)
      have hc := hcell 0 x rfl
      rw [Nat.add_zero] at hc
      have hpos : 0 < (x :: ys).length := by simp
      have HG := hidH (show (leadW m zs)[k]? = some x by rw [leadW_get _ _ _ hlt, hxy]; rfl)
      have HDN := hidH (show difN (k + 1) zs = difW (x :: ys) by rw [difN_snoc, hxy])
      obtain ⟨ho, hf⟩ := HBK.out.2 k 0 (fill_at _ _ (by rw [HLL.out]; exact hlt))
      have HST := hidH ((HBK.out.set k x))
      have HF := hidH (fill_set _ k x HG.out)
      clear hcell hxy hl
      have hbne : b ≠ w.heap.size := by omega
      go_wp2_with fail
      have hb1 : Below w.heap.size w (wr.setCell ⟨w.heap.size, k, none⟩ (.int .i64 x)) := HB.out.setCell (Nat.le_refl _) _
      have hl1 : Lies (wr.setCell ⟨w.heap.size, k, none⟩ (.int .i64 x)) l h (.slice (some ⟨b, off, none⟩) (x :: ys).length cap) (x :: ys) := HL.out.apart (Apart.of_onto (Onto.setCell w.heap.size k wr (.int .i64 x)) (Nat.le_refl _) (Nat.lt_succ_self _)) (by omega)
      have HB1 := hidH hb1
      have HL1 := hidH hl1
      clear hb1 hl1
      generalize wr.setCell ⟨w.heap.size, k, none⟩ (.int .i64 x) = w1 at *
      refine (diffs_any _ x ys w1 l h HL1.out hyl).mono ?_; rintro e w2 ⟨v2, rfl, hr2, hb2⟩
      have HR2 := hidH hr2
      have HB2 := hidH hb2
      clear hr2 hb2
      go_wp2_with fail
      go_roundw
      case rel =>
        refine ⟨k + 1, v2, w1.heap.size, w2.heap.size, by omega, by go_num, rfl, by rw [HDN.out]; exact HR2.out.lies, .inr ?_, ?_, HB1.out.trans (HB2.out.mono HB1.out.size)⟩
        · exact HST.out.1
        · rw [← HF.out]; exact HST.out.below HB2.out
      case measure => simp [intOf]; omega
    · obtain rfl : k = m := by omega
      go_wp2_with fail
      go_ret
      have h := HBK.out
      have e := fill_all (leadW k zs)
      rw [HLL.out] at e
      rw [e] at h
      exact ⟨_, rfl, h.row (Nat.le_refl _) h.1 (by rw [HLL.out]; exact Nat.le_refl _) (by unfold maxLen; omega) HLL.out.symm, HB.out⟩
/-- A call that answers a row from lo on and a truth. -/
def RowFrom (lo : Nat) (zs : List Int) (b : Bool) (w : World) (e : Ending) (w' : World) : Prop := ∃ v, e = .returned (.tuple #[v, .bool b]) ∧ Row w' lo w'.heap.size v zs ∧ Below w.heap.size w w'
theorem ifPoly_any (v : Value) (zs : List Int) (w : World) (lo : Nat) (hv : Row w lo w.heap.size v zs) : Calls Try.prog 81 #[v] w (RowFrom lo (resL zs) (polyOk zs) w) := by
  have HV := hidH hv
  clear hv
  cases h : polyOk zs
  · have HZ := hidH h
    have HE := hidH (show resL zs = [] by rw [resL, h]; rfl)
    clear h
    go_enter Try.func81, Try.ntmps81
    go_wp2_with fail
    refine (polyValid_any v zs _ _ _ HV.out.lies).mono ?_; rintro e w1 ⟨rfl, hb⟩
    rw [HZ.out]
    go_wp2_with fail
    go_ret2
    rw [HE.out]
    exact ⟨_, rfl, Row.nil _ _ _ _ _ (Nat.zero_le _) (fun _ => rfl), hb⟩
  · have HZ := hidH h
    have HE := hidH (show resL zs = zs by rw [resL, h]; rfl)
    clear h
    go_enter Try.func81, Try.ntmps81
    go_wp2_with fail
    refine (polyValid_any v zs _ _ _ HV.out.lies).mono ?_; rintro e w1 ⟨rfl, hb⟩
    rw [HZ.out]
    have HB := hidH hb
    clear hb
    go_wp2_with fail
    go_ret2
    rw [HE.out]
    exact ⟨_, rfl, (HV.out.below HB.out).mono (Nat.le_refl _) HB.out.size, HB.out⟩
end Go.Proofs.Ytgnoclnenhmakaa
