/-
  Values of a polynomial one after the other and its differences at an argument: the program. Condition: valid polynomials and arguments between -300 and 300.
-/
import Derived.Test.YtliakbgigkajnaaPolyJ
import Derived.Test.YtliakbgigkajnaaPolyN
namespace Go.Proofs.Ytliakbgigkajnaa
set_option maxRecDepth 4000
open Go.RowKit
theorem diffsAt_any (v : Value) (zs : List Int) (n : Int) (w : World) (lo hi : Nat) (hv : Lies w lo hi v zs) (h0 : 0 < zs.length) (hs : Small zs) (h1 : -300 ≤ n) (h2 : n ≤ 300) : Calls Try.prog 38 #[v, .int .i64 n] w (NewRow (shiftL zs n zs.length) w) := by
  obtain ⟨b, off, cap, rfl, hlc, hcm, hl1, hh1, hbw, hcell⟩ := hv.addr h0
  have h7 := hs.1
  have HS := hidH hs
  have HLD := hidH fun (k : Nat) (hk : k < zs.length) => lies_drop (w := w) (lo := lo) (hi := hi) (b := b) (off := off) (cap := cap) (zs := zs) k (zs.length - k) (cap - k) rfl rfl hlc hcm hl1 hh1 hcell
  have HLL := hidH (shiftL_length zs n zs.length)
  have HM := hidH (Blk.made w 3 zs.length)
  unfold maxLen at hcm
  have hmk := run_make_row' (P := Try.prog) 22 3 (.int .i64 0) 8 Try.underlying22 infoInt rfl .i64 .i64 zs.length (by omega) (by omega) w
  clear hcell hv hs
  go_enter Try.func38, Try.ntmps38
  go_wp2_with fail
  go_loopw [12] (fun i wr => ∃ k : Nat, k ≤ zs.length ∧ i = .int .i64 k ∧ Blk wr w.heap.size (fill (shiftL zs n zs.length) k) ∧ Below w.heap.size w wr) (fun i _ => zs.length - (intOf i).toNat)
  case atStart => exact ⟨0, Nat.zero_le _, rfl, by have := HM.out; rw [fill_zero, HLL.out]; exact this, (Below.refl _ _).alloc (Nat.le_refl _) _⟩
  case round =>
    obtain ⟨k, hk, rfl, hblk, hb⟩ := hrel
    have HBK := hidH hblk
    have HB := hidH hb
    clear hblk hb
    by_cases hlt : k < zs.length
    · have hkc : k ≤ cap := by omega
      have hkn : ¬ k = cap := by omega
      obtain ⟨ho, hf⟩ := HBK.out.2 k 0 (fill_at _ _ (by rw [HLL.out]; exact hlt))
      have HG := hidH (fill_set _ k _ (shiftL_get zs n zs.length k hlt))
      go_wp2_with fail
      refine (valueAt_any _ (zs.drop k) n h1 h2 (HS.out.drop k) wr lo hi ((HLD.out k hlt).below HB.out)).mono ?_; rintro e w2 ⟨rfl, q, rfl⟩
      have HST := hidH ((HBK.out.drewN q).set k (evP (zs.drop k) n))
      go_wp2_with fail
      go_roundw
      case rel => exact ⟨k + 1, by omega, by go_num, by rw [← HG.out]; exact HST.out, (below_drewN HB.out q).setCell (Nat.le_refl _) _⟩
      case measure => simp [intOf]; omega
    · obtain rfl : k = zs.length := by omega
      go_wp2_with fail
      go_ret
      have h := HBK.out
      have e := fill_all (shiftL zs n zs.length)
      rw [HLL.out] at e
      rw [e] at h
      exact ⟨_, rfl, h.row (Nat.le_refl _) h.1 (by rw [HLL.out]; exact Nat.le_refl _) (by unfold maxLen; omega) HLL.out.symm, HB.out⟩
theorem shift_step (zs : List Int) (n : Int) (k : Nat) : evP (zs.drop k) n + evP (zs.drop (k + 1)) n = evP (zs.drop k) (n + 1) := by
  rw [evP_step, List.tail_drop]
/-- A call that moves a row of differences on to the next argument. -/
def Up (b : Nat) (L : List Int) (w : World) (e : Ending) (w' : World) : Prop := e = .returned (.tuple #[]) ∧ Blk w' b L ∧ Onto b w w'
theorem addUp_any (b cap : Nat) (zs : List Int) (n : Int) (w : World) (hB : Blk w b (shiftL zs n zs.length)) (h0 : 0 < zs.length) (hs : Small zs) (h1 : -300 ≤ n) (h2 : n + 1 ≤ 300) (hc : zs.length ≤ cap) (hcm : cap ≤ 9223372036854775807) : Calls Try.prog 43 #[.slice (some ⟨b, 0, none⟩) zs.length cap] w (Up b (shiftL zs (n + 1) zs.length) w) := by
  have h7 := hs.1
  have HS := hidH hs
  have HB0 := hidH hB
  have HLL := hidH (show (shiftL zs (n + 1) zs.length).length = (shiftL zs n zs.length).length by rw [shiftL_length, shiftL_length])
  have HL2 := hidH (shiftL_length zs n zs.length)
  clear hB hs
  go_enter Try.func43, Try.ntmps43
  go_wp2_with fail
  go_loopw [6] (fun i wr => ∃ k : Nat, k ≤ zs.length - 1 ∧ i = .int .i64 k ∧ Blk wr b (over (shiftL zs (n + 1) zs.length) (shiftL zs n zs.length) k) ∧ Onto b w wr) (fun i _ => zs.length - (intOf i).toNat)
  case atStart => exact ⟨0, Nat.zero_le _, rfl, by rw [over_zero]; exact HB0.out, Onto.refl _ _⟩
  case round =>
    obtain ⟨k, hk, rfl, hblk, ho⟩ := hrel
    have HBK := hidH hblk
    have HO := hidH ho
    clear hblk ho
    by_cases hlt : k + 1 < zs.length
    · obtain ⟨hc1, hf1⟩ := HBK.out.2 k _ (by rw [over_get _ _ _ HLL.out (by rw [HL2.out]; omega)]; exact shiftL_get zs n zs.length k (by omega))
      obtain ⟨hc2, _⟩ := HBK.out.2 (k + 1) (evP (zs.drop (k + 1)) n) (by
        have e : (over (shiftL zs (n + 1) zs.length) (shiftL zs n zs.length) k)[k + 1]? = (shiftL zs n zs.length)[k + 1]? := by
          unfold over
          rw [List.getElem?_append_right (by rw [List.length_take]; omega), List.length_take, Nat.min_eq_left (by rw [shiftL_length]; omega), List.getElem?_drop]
          congr 1
          omega
        rw [e]; exact shiftL_get zs n zs.length (k + 1) hlt)
      have ⟨b1, b2⟩ := (HS.out.drop k).bd n h1 (by omega)
      have ⟨b3, b4⟩ := (HS.out.drop (k + 1)).bd n h1 (by omega)
      have HSS := hidH (shift_step zs n k)
      have HG := hidH (over_set _ _ k _ HLL.out (shiftL_get zs (n + 1) zs.length k (by omega)))
      go_wp2_with fail
      go_region
      go_wp2_with fail
      go_roundw
      case rel => exact ⟨k + 1, by omega, by go_num, by rw [← HG.out, ← HSS.out]; exact (HBK.out.set k _).drewN 1, HO.out.trans ((Onto.setCell b k wr _).drewN 1)⟩
      case measure => simp [intOf]; omega
    · go_wp2_with fail
      go_end0
      refine ⟨rfl, ?_, HO.out⟩
      have h := HBK.out
      have e : over (shiftL zs (n + 1) zs.length) (shiftL zs n zs.length) k = shiftL zs (n + 1) zs.length := by
        refine list_ext (by unfold over; simp [shiftL_length]; omega) fun j x y hx hy => ?_
        have hj : j < zs.length := by have := (List.getElem?_eq_some_iff.1 hy).1; rwa [shiftL_length] at this
        unfold over at hx
        by_cases hjk : j < k
        · rw [List.getElem?_append_left (by rw [List.length_take, shiftL_length]; omega), List.getElem?_take, if_pos hjk] at hx
          rw [hx] at hy; injection hy
        · obtain rfl : j = k := by omega
          rw [List.getElem?_append_right (by rw [List.length_take]; omega), List.length_take, Nat.min_eq_left (by rw [shiftL_length]; omega), Nat.sub_self, List.getElem?_drop, Nat.add_zero, shiftL_get _ _ _ _ hj] at hx
          rw [shiftL_get _ _ _ _ hj] at hy
          injection hx with hx
          injection hy with hy
          rw [← hx, ← hy, ← shift_step, List.drop_eq_nil_of_le (show zs.length ≤ j + 1 by omega)]
          simp [evP, ev]
      rw [e] at h
      exact h
end Go.Proofs.Ytliakbgigkajnaa
