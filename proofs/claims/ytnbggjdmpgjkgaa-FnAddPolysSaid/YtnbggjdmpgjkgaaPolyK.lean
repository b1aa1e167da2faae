/-
  Values of a polynomial one after the other and its differences at an argument: the program. Condition: valid polynomials and arguments between -300 and 300.
-/
import Derived.Test.YtnbggjdmpgjkgaaPolyJ
import Derived.Test.YtnbggjdmpgjkgaaPolyN
namespace Go.Proofs.Ytnbggjdmpgjkgaa
open Go.RowKit
theorem diffsAt_any (v : Value) (zs : List Int) (n : Int) (w : World) (lo hi : Nat) (hv : Lies w lo hi v zs) (h0 : 0 < zs.length) (hs : Small zs) (h1 : -300 ≤ n) (h2 : n ≤ 300) : Calls Try.prog 55 #[v, .int .i64 n] w (NewRow (shiftL zs n zs.length) w) := by
  obtain ⟨b, off, cap, rfl, hlc, hcm, hl1, hh1, hbw, hcell⟩ := hv.addr h0
  have h7 := hs.1
  have HS := hidH hs
  have HLD := hidH fun (k : Nat) (hk : k < zs.length) => lies_drop (w := w) (lo := lo) (hi := hi) (b := b) (off := off) (cap := cap) (zs := zs) k (zs.length - k) (cap - k) rfl rfl hlc hcm hl1 hh1 hcell
  have HLL := hidH (shiftL_length zs n zs.length)
  have HM := hidH (Blk.made w 3 zs.length)
  unfold maxLen at hcm
  have hmk := run_make_row' (P := Try.prog) 28 3 (.int .i64 0) 8 Try.underlying28 infoInt rfl .i64 .i64 zs.length (by omega) (by omega) w
  clear hcell hv hs
  go_enter Try.func55, Try.ntmps55
  go_wp2_with fail
  go_loopw [12] (fun i wr => ∃ k : Nat, k ≤ zs.length ∧ i = .int .i64 k ∧ Blk wr w.heap.size (fill (shiftL zs n zs.length) k) ∧ Below w.heap.size w wr) (fun i _ => zs.length - (intOf i).toNat)
  case atStart => exact ⟨0, Nat.zero_le _, rfl, by have := HM.out; rw [fill_zero, HLL.out]; exact this, (Below.refl _ _).alloc (Nat.le_refl _) _⟩
  case round =>
    obtain ⟨k, hk, rfl, hblk, hb⟩ := hrel
    have HBK := hidH hblk
    have HB := hidH hb
    clear hblk hb
    by_cases hlt : k < zs.length
    · have hkc : k ≤ cap := by omega
      have hkn : ¬ k = cap := by omega
      obtain ⟨ho, hf⟩ := HBK.out.2 k 0 (fill_at _ _ (by rw [HLL.out]; exact hlt))
      have HG := hidH (fill_set _ k _ (shiftL_get zs n zs.length k hlt))
      go_wp2_with fail
      refine (valueAt_any _ (zs.drop k) n h1 h2 (HS.out.drop k) wr lo hi ((HLD.out k hlt).below HB.out)).mono ?_; rintro e w2 ⟨rfl, q, rfl⟩
      have HST := hidH ((HBK.out.drewN q).set k (evP (zs.drop k) n))
      go_wp2_with fail
      go_roundw
      case rel => exact ⟨k + 1, by omega, by go_num, by rw [← HG.out]; exact HST.out, (below_drewN HB.out q).setCell (Nat.le_refl _) _⟩
      case measure => simp [intOf]; omega
    · obtain rfl : k = zs.length := by omega
      go_wp2_with fail
      go_ret
      have h := HBK.out
      have e := fill_all (shiftL zs n zs.length)
      rw [HLL.out] at e
      rw [e] at h
      exact ⟨_, rfl, h.row (Nat.le_refl _) h.1 (by rw [HLL.out]; exact Nat.le_refl _) (by unfold maxLen; omega) HLL.out.symm, HB.out⟩
theorem shift_step (zs : List Int) (n : Int) (k : Nat) : evP (zs.drop k) n + evP (zs.drop (k + 1)) n = evP (zs.drop k) (n + 1) := by
  rw [evP_step, List.tail_drop]
/-- A call that moves a row of differences on to the next argument. -/
def Up (b : Nat) (L : List Int) (w : World) (e : Ending) (w' : World) : Prop := e = .returned (.tuple #[]) ∧ Blk w' b L ∧ Onto b w w'
end Go.Proofs.Ytnbggjdmpgjkgaa
