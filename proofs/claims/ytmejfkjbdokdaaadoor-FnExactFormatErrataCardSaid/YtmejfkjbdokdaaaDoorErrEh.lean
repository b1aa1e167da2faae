/-
  The laws' conversion of errata. No conditions.
-/
import Derived.Test.YtmejfkjbdokdaaaDoorErrEc
import Derived.Test.YtmejfkjbdokdaaaDoorErrEd
import Derived.Laws.MakeOwn
namespace Go.Proofs.YtmejfkjbdokdaaaDoor
set_option maxRecDepth 4000
open Go.RowKit
theorem toErr_any (x y z : Int) (w : World) : Calls Tryd.prog 20 #[.agg #[.int .i64 x, .int .i64 y, .int .i64 z]] w (Gives (.agg #[.int .i64 x, .int .i64 y, .int .i64 z]) w) := by
  have BB := hidH ((bMore ((bMore ((bMore (Below.refl w.heap.size w) (.cells #[.int .i64 x, .int .i64 y, .int .i64 z] 42))) (.cells #[.int .i64 x, .int .i64 y, .int .i64 z] 40))) (.cells #[.int .i64 x, .int .i64 y, .int .i64 z] 40)))
  have HG := hidH (show (((w.alloc (.cells #[.int .i64 x, .int .i64 y, .int .i64 z] 42)).alloc (.cells #[.int .i64 x, .int .i64 y, .int .i64 z] 40)).alloc (.cells #[.int .i64 x, .int .i64 y, .int .i64 z] 40)).heap[w.heap.size + 1]? = some (.cells #[.int .i64 x, .int .i64 y, .int .i64 z] 40 (0, 0)) by
    rw [heap_alloc_old _ _ (by simp)]
    have h := heap_alloc_new (w.alloc (.cells #[.int .i64 x, .int .i64 y, .int .i64 z] 42)) (.cells #[.int .i64 x, .int .i64 y, .int .i64 z] 40)
    simpa using h)
  go_enter Tryd.func20, Tryd.ntmps20
  go_wp2_with fail
  refine bodyPost_ret (results_cell_row Tryd.results20 _ _ (w.heap.size + 1) 40 _ (0, 0) _ rfl HG.out Tryd.underlying40 rfl (err_size _ _ _)) rfl ?_
  exact ⟨rfl, BB.out⟩
theorem szE_any (a : Option Addr) (n cap : Nat) (w : World) (l : Int) (hlc : n ≤ cap) (hcm : cap ≤ maxLen) (h1 : 0 ≤ l) (h2 : l ≤ 1048576) : Calls Tryd.prog 6 #[.slice a n cap, .int .i64 l] w (Gives (.int .i64 (if (n : Int) ≤ l then l - n else -1)) w) := by
  unfold maxLen at hcm
  by_cases h : (n : Int) ≤ l
  · rw [if_pos h]
    have hd : decide (l - (n : Int) < 0) = false := decide_eq_false (by omega)
    go_enter Tryd.func6, Tryd.ntmps6
    go_wp2_with fail
    go_ret
    exact ⟨rfl, Below.refl _ _⟩
  · rw [if_neg h]
    have hd : decide (l - (n : Int) < 0) = true := decide_eq_true (by omega)
    go_enter Tryd.func6, Tryd.ntmps6
    go_wp2_with fail
    go_ret
    exact ⟨rfl, Below.refl _ _⟩
theorem Blk.made3 (w : World) (t m : Nat) : Blk (w.alloc (.cells (madeCells #[.int .i64 0, .int .i64 0, .int .i64 0] m) t)) w.heap.size (List.replicate m 0) := by
  refine ⟨by simp, fun j z hj => ⟨?_, cells_frozen _ _ _ _⟩⟩
  have hlt : j < m := by have := (List.getElem?_eq_some_iff.1 hj).1; simpa using this
  obtain rfl : z = 0 := by
    rw [List.getElem?_replicate, if_pos hlt] at hj
    injection hj with hj; exact hj.symm
  rw [World.cell?_alloc_at _ _ _ _ rfl]
  have h3 : j % 3 = 0 ∨ j % 3 = 1 ∨ j % 3 = 2 := by omega
  rcases h3 with h3 | h3 | h3 <;> simp [madeCells, hlt, h3]
set_option maxHeartbeats 1600000 in
theorem toE_any (v : Value) (n : Nat) (F : List Int) (w : World) (hv : Lies3 w 0 w.heap.size v n F) (hn : n ≤ 1048576) : Calls Tryd.prog 8 #[v] w fun e w' => ∃ u, e = .returned u ∧ Row3 w' w.heap.size w'.heap.size u n F ∧ Below w.heap.size w w' := by
  have HF := hidH hv.1
  have HC := hidH hv
  obtain ⟨a, cap, rfl, hnc, hcm⟩ := lies3_len hv
  unfold maxLen at hcm
  clear hv
  have HTE := hidH (fun x y z W => toErr_any x y z W)
  obtain ⟨i0, hi0, hz0, hz1, hz2⟩ := info3
  have hmk : (Instr.makeSlice 25 (.int .i64 (n : Int)) (.int .i64 (n : Int))).run Tryd.prog w = .ok (.slice (some ⟨w.heap.size, 0, none⟩) n n) (w.alloc (.cells (madeCells #[.int .i64 0, .int .i64 0, .int .i64 0] (n * 3)) 40)) := by
    have hr := run_make (P := Tryd.prog) (w := w) 25 40 i0 _ Tryd.underlying25 hi0 hz0 .i64 .i64 n n (by omega) (Int.le_refl _) (by rw [hz2]; omega) (by omega)
    rw [hz1] at hr
    simpa [Value.cells] using hr
  clear hi0 hz0 hz1 hz2
  have HM := hidH (Blk.made3 w 40 (n * 3))
  by_cases h0 : n = 0
  · subst h0
    obtain rfl : F = [] := List.eq_nil_of_length_eq_zero (by have := HF.out; omega)
    rw [show ((0 : Nat) : Int) = 0 from rfl, Nat.zero_mul] at hmk
    go_enter Tryd.func8, Tryd.ntmps8
    go_wp2_with fail
    go_loopw [4] (fun i wr => i = .int .i64 0 ∧ Below w.heap.size w wr) (fun _ _ => 0)
    case atStart => exact ⟨rfl, (Below.refl _ _).alloc (Nat.le_refl _) _⟩
    case round =>
      obtain ⟨rfl, hb⟩ := hrel
      have HB := hidH hb
      clear hb
      go_wp2_with fail
      go_ret
      exact ⟨_, rfl, Row3.nil _ _ _ _ _ (by unfold maxLen; omega) (fun e => by cases e), HB.out⟩
  · obtain ⟨b0, off0, cc, e, _, _, hbw, hcl⟩ := lies3_cells HC.out (by omega)
    injection e with e1 e2 e3
    subst e1
    have HCL := hidH hcl
    clear e2 e3 hcl HC
    go_enter Tryd.func8, Tryd.ntmps8
    go_wp2_with fail
    go_loopw [4] (fun i wr => ∃ k : Nat, k ≤ n ∧ i = .int .i64 k ∧ Blk wr w.heap.size (fill F (k * 3)) ∧ Below w.heap.size w wr) (fun i _ => n - (intOf i).toNat)
    case atStart => exact ⟨0, Nat.zero_le _, rfl, by rw [Nat.zero_mul, fill_zero, HF.out, show 3 * n = n * 3 from Nat.mul_comm _ _]; exact HM.out, (Below.refl _ _).alloc (Nat.le_refl _) _⟩
    case round =>
      obtain ⟨k, hk, rfl, hB, hb⟩ := hrel
      have HB := hidH hB
      have Hb := hidH hb
      clear hB hb
      by_cases hlt : k < n
      · have hcA : wr.cell? ⟨b0, off0 + k * 3, none⟩ = some (.int .i64 (eAt F k)) := by rw [Hb.out.cell (p := ⟨b0, off0 + k * 3, none⟩) hbw]; exact (HCL.out k hlt).1
        have hcW : wr.cell? ⟨b0, off0 + k * 3 + 1, none⟩ = some (.int .i64 (eWr F k)) := by rw [Hb.out.cell (p := ⟨b0, off0 + k * 3 + 1, none⟩) hbw]; exact (HCL.out k hlt).2.1
        have hcR : wr.cell? ⟨b0, off0 + k * 3 + 2, none⟩ = some (.int .i64 (eRi F k)) := by rw [Hb.out.cell (p := ⟨b0, off0 + k * 3 + 2, none⟩) hbw]; exact (HCL.out k hlt).2.2
        have hF := HF.out
        obtain ⟨x, hx⟩ := get_lt F (k * 3) (by omega)
        obtain ⟨y, hy⟩ := get_lt F (k * 3 + 1) (by omega)
        obtain ⟨z, hz⟩ := get_lt F (k * 3 + 2) (by omega)
        rw [show eAt F k = x from getD_of hx] at hcA
        rw [show eWr F k = y from getD_of hy] at hcW
        rw [show eRi F k = z from getD_of hz] at hcR
        have HS := hidH (show (((fill F (k * 3)).set (k * 3) x).set (k * 3 + 1) y).set (k * 3 + 2) z = fill F ((k + 1) * 3) by
          rw [fill_set F _ x hx, fill_set F _ y hy, fill_set F (k * 3 + 1 + 1) z hz, show k * 3 + 1 + 1 + 1 = (k + 1) * 3 by omega])
        have hfl := fill_length F (k * 3) (by omega)
        obtain ⟨p0, g0⟩ := get_lt (fill F (k * 3)) (k * 3) (by omega)
        obtain ⟨p1, g1⟩ := get_lt (fill F (k * 3)) (k * 3 + 1) (by omega)
        obtain ⟨p2, g2⟩ := get_lt (fill F (k * 3)) (k * 3 + 2) (by omega)
        have HE := hidH (HTE.out x y z wr)
        have HG0 := hidH g0
        have HG1 := hidH g1
        have HG2 := hidH g2
        clear hx hy hz hF hfl g0 g1 g2
        go_wp2_with fail
        refine HE.out.mono ?_; rintro e w3 ⟨rfl, hb⟩
        have HB3 := hidH (HB.out.below hb)
        have Hb3 := hidH (Hb.out.trans (hb.mono Hb.out.size))
        obtain ⟨c0, f0⟩ := HB3.out.2 _ _ HG0.out
        obtain ⟨c1, f1⟩ := HB3.out.2 _ _ HG1.out
        obtain ⟨c2, f2⟩ := HB3.out.2 _ _ HG2.out
        have K1 := hidH (((HB3.out.set (k * 3) x).set (k * 3 + 1) y).set (k * 3 + 2) z)
        clear hb hcA hcW hcR HE
        go_wp2_with fail
        go_roundw
        case rel => exact ⟨k + 1, by omega, by go_num, by rw [← HS.out]; exact K1.out, ((Hb3.out.setCell (Nat.le_refl _) _).setCell (Nat.le_refl _) _).setCell (Nat.le_refl _) _⟩
        case measure => simp [intOf]; omega
      · obtain rfl : k = n := by omega
        have hF := HF.out
        go_wp2_with fail
        go_ret
        have hB := HB.out
        rw [show k * 3 = F.length by omega, fill_all] at hB
        exact ⟨_, rfl, ⟨hF, _, k, rfl, Nat.le_refl _, by unfold maxLen; omega, (fun e => by cases e), hB.row (Nat.le_refl _) hB.1 (Nat.le_refl _) (by unfold maxLen; omega) rfl⟩, Hb.out⟩
end Go.Proofs.YtmejfkjbdokdaaaDoor
