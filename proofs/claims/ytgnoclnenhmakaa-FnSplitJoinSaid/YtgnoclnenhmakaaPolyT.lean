/-
  Trimming a polynomial, its degree, its differences and its sum: the library's copies and the walks of the program and the model. Condition: slices of at most 1048576 numbers.
-/
import Derived.Test.YtgnoclnenhmakaaPolyV
import Derived.Test.YtgnoclnenhmakaaSl
import Derived.Lib.SliceRun
import Derived.Laws.AppendOwn
namespace Go.Proofs.Ytgnoclnenhmakaa
set_option maxRecDepth 4000
open Go.RowKit
theorem clone_any (v : Value) (zs : List Int) (w : World) (lo hi : Nat) (hv : Lies w lo hi v zs) (h0 : 0 < zs.length) (hn : zs.length ≤ 1048576) : Calls Try.prog 84 #[v] w (NewRow zs w) := by
  obtain ⟨b, off, cap, rfl, hlc, hcm, _, _, _, hcell⟩ := hv.addr h0
  clear hv
  obtain ⟨i0, hi, hz0, hz1, hz2⟩ := info_parts infoInt
  have q22 : ∀ (w : World) (a : Option Addr) (n c n' c' : Nat), (binOp .eql 28 (.slice a n c) (.slice none n' c')).run Try.prog w = .ok (.bool a.isNone) w := fun w a n c n' c' => Lib.run_eql_slice_nil w _ _ a n c n' c' Try.underlying28
  have HC := hidH (cells_map hcell)
  have HO := hidH (oneCells zs)
  clear hcell
  unfold maxLen at hcm
  go_enter Try.func84, Try.ntmps84
  go_wp2_with (at_builtin; refine wpList_append_own _ rfl _ _ 28 rfl w.heap.size 3 i0 (.int .i64 0) 1 8 Try.underlying28 hi hz0 hz1 hz2 rfl (by decide) _ _ _ rfl (World.ownsRow_made w #[] 0 (Nat.le_refl _) (Nat.zero_le _) rfl) ⟨b, off, none⟩ zs.length cap (ints zs) rfl ?qc1 ?qc2 HO.out ?qc4 ?qc5 ?qc6 ?_)
  case qc1 => rw [ints_length, Nat.mul_one]
  case qc2 => exact HC.out _ ((Below.refl _ _).alloc (Nat.le_refl _) _)
  case qc4 => unfold maxLen; omega
  case qc5 => omega
  case qc6 => simp
  intro v' w1 hown hgrow hnil
  have HR := hidH hown
  have HG := hidH hgrow
  clear hown hgrow hnil
  go_wp2
  go_ret
  exact ⟨v', rfl, (row_of_owns HR.out).1, ((Below.refl _ w).alloc (Nat.le_refl _) _).grown HG.out (by simp) (by intro k hk; simp [Value.ownBlock] at hk; omega)⟩
/-- How many numbers a trimmed list of the first n keeps. -/
def trimTo (zs : List Int) : Nat → Nat
  | 0 => 0
  | 1 => 1
  | n + 2 => if zs.getD (n + 1) 0 = 0 then trimTo zs (n + 1) else n + 2
/-- A list without the zeros at its end, but with one number. -/
def trimL (zs : List Int) : List Int := zs.take (trimTo zs zs.length)
theorem trimTo_le (zs : List Int) (n : Nat) : trimTo zs n ≤ n := by
  induction n with
  | zero => exact Nat.le_refl _
  | succ n ih =>
    cases n with
    | zero => exact Nat.le_refl _
    | succ n =>
      rw [trimTo]
      split
      · omega
      · exact Nat.le_refl _
theorem trimTo_pos (zs : List Int) (n : Nat) (h : 0 < n) : 0 < trimTo zs n := by
  induction n with
  | zero => omega
  | succ n ih =>
    cases n with
    | zero => exact Nat.zero_lt_one
    | succ n =>
      rw [trimTo]
      split
      · exact ih (by omega)
      · omega
theorem trimL_length (zs : List Int) : (trimL zs).length = trimTo zs zs.length := by
  have := trimTo_le zs zs.length
  rw [trimL, List.length_take]; omega
theorem trimTo_zero (zs : List Int) (n : Nat) (z : Int) (hz : zs[n + 1]? = some z) (h : z = 0) : trimTo zs (n + 2) = trimTo zs (n + 1) := by
  rw [trimTo, if_pos (by rw [List.getD_eq_getElem?_getD, hz]; exact h)]
theorem trimTo_nz (zs : List Int) (n : Nat) (z : Int) (hz : zs[n + 1]? = some z) (h : z ≠ 0) : trimTo zs (n + 2) = n + 2 := by
  rw [trimTo, if_neg (by rw [List.getD_eq_getElem?_getD, hz]; exact h)]
theorem trim_yes (v : Value) (zs : List Int) (w : World) (lo hi : Nat) (hv : Lies w lo hi v zs) (hz : polyOk zs = true) : Calls Try.prog 57 #[v] w (NewRow (trimL zs) w) := by
  have ⟨h1, hs⟩ := polyOk_small _ hz
  have h7 := hs.1
  have HZ := hidH hz
  have HV := hidH hv
  clear hz hv hs
  go_enter Try.func57, Try.ntmps57
  go_wp2_with fail
  refine (polyValid_any v zs _ _ _ HV.out).mono ?_; rintro e w1 ⟨rfl, hb⟩
  rw [HZ.out]
  have HB := hidH hb
  obtain ⟨b, off, cap, rfl, hlc, hcm, hl1, hh1, hbw, hcell⟩ := (HV.out.below hb).addr (by omega)
  have HC := hidH hcell
  clear hb hcell
  unfold maxLen at hcm
  have HX := hidH fun (k : Nat) (hk : 1 ≤ k) (hk2 : k ≤ zs.length) (hk3 : trimTo zs k = k) (hk4 : trimTo zs k = trimTo zs zs.length) => (clone_any (.slice (some ⟨b, off, none⟩) k cap) (zs.take k) w1 lo hi (lies_take k hk2 hlc (by unfold maxLen; omega) hl1 hh1 HC.out) (by rw [List.length_take]; omega) (by rw [List.length_take]; omega)).mono fun e w2 (h : NewRow (zs.take k) w1 e w2) => (show NewRow (trimL zs) w1 e w2 by rw [trimL, ← hk4, hk3]; exact h)
  go_wp2_with fail
  go_loop [3] (fun i => ∃ k : Nat, 1 ≤ k ∧ k ≤ zs.length ∧ i = .int .i64 k ∧ trimTo zs k = trimTo zs zs.length) (fun i => (intOf i).toNat)
  case atStart => exact ⟨zs.length, by omega, Nat.le_refl _, rfl, rfl⟩
  case round =>
    obtain ⟨k, hk1, hk2, rfl, hT⟩ := hrel
    have HT := hidH hT
    clear hT
    by_cases hone : k = 1
    · subst hone
      have hc0 := HX.out 1 (Nat.le_refl _) hk2 rfl HT.out
      have HE := hidH hc0
      clear hc0
      go_wp2_with (go_at_call 84; refine HE.out.mono ?_; rintro e w2 ⟨v', rfl, hr, hb⟩)
      go_ret
      exact ⟨v', rfl, hr.mono HB.out.size (Nat.le_refl _), HB.out.trans (hb.mono HB.out.size)⟩
    · obtain ⟨m, rfl⟩ : ∃ m, k = m + 2 := ⟨k - 2, by omega⟩
      obtain ⟨z, hz⟩ := get_lt zs (m + 1) (by omega)
      have hcz := HC.out _ _ hz
      have HZZ := hidH hz
      clear hz hone
      by_cases hz0 : z = 0
      · subst hz0
        go_wp2_with fail
        go_round
        case rel => exact ⟨m + 1, by omega, by omega, by go_num, by rw [← HT.out, trimTo_zero _ _ _ HZZ.out rfl]⟩
        case measure => simp [intOf]; omega
      · have hzb : (z == 0) = false := beq_eq_false_iff_ne.2 hz0
        have hc0 := HX.out (m + 2) (by omega) hk2 (trimTo_nz _ _ _ HZZ.out hz0) HT.out
        have HE := hidH hc0
        clear hc0 hz0
        go_wp2_with (go_at_call 84; refine HE.out.mono ?_; rintro e w2 ⟨v', rfl, hr, hb⟩)
        go_ret
        exact ⟨v', rfl, hr.mono HB.out.size (Nat.le_refl _), HB.out.trans (hb.mono HB.out.size)⟩
theorem trim_no (v : Value) (zs : List Int) (w : World) (lo hi : Nat) (hv : Lies w lo hi v zs) (hz : polyOk zs = false) : Calls Try.prog 57 #[v] w (NewRow [] w) := by
  have HZ := hidH hz
  have HV := hidH hv
  clear hz hv
  go_enter Try.func57, Try.ntmps57
  go_wp2_with fail
  refine (polyValid_any v zs _ _ _ HV.out).mono ?_; rintro e w1 ⟨rfl, hb⟩
  rw [HZ.out]
  go_wp2_with fail
  go_ret
  exact ⟨_, rfl, Row.nil _ _ _ _ _ (Nat.zero_le _) (fun _ => rfl), hb⟩
end Go.Proofs.Ytgnoclnenhmakaa
