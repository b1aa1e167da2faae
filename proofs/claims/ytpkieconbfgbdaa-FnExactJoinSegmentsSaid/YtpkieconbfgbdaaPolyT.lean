/-
  Trimming a polynomial, its degree, its differences and its sum: the library's copies and the walks of the program and the model. Condition: slices of at most 1048576 numbers.
-/
import Derived.Test.YtpkieconbfgbdaaPolyV
import Derived.Test.YtpkieconbfgbdaaSl
import Derived.Lib.SliceRun
import Derived.Laws.AppendOwn
namespace Go.Proofs.Ytpkieconbfgbdaa
set_option maxRecDepth 4000
open Go.RowKit
theorem clone_any (v : Value) (zs : List Int) (w : World) (lo hi : Nat) (hv : Lies w lo hi v zs) (h0 : 0 < zs.length) (hn : zs.length ≤ 1048576) : Calls Try.prog 72 #[v] w (NewRow zs w) := by
  obtain ⟨b, off, cap, rfl, hlc, hcm, _, _, _, hcell⟩ := hv.addr h0
  clear hv
  obtain ⟨i0, hi, hz0, hz1, hz2⟩ := info_parts infoInt
  have q22 : ∀ (w : World) (a : Option Addr) (n c n' c' : Nat), (binOp .eql 22 (.slice a n c) (.slice none n' c')).run Try.prog w = .ok (.bool a.isNone) w := fun w a n c n' c' => Lib.run_eql_slice_nil w _ _ a n c n' c' Try.underlying22
  have HC := hidH (cells_map hcell)
  have HO := hidH (oneCells zs)
  clear hcell
  unfold maxLen at hcm
  go_enter Try.func72, Try.ntmps72
  go_wp2_with (at_builtin; refine wpList_append_own _ rfl _ _ 22 rfl w.heap.size 3 i0 (.int .i64 0) 1 8 Try.underlying22 hi hz0 hz1 hz2 rfl (by decide) _ _ _ rfl (World.ownsRow_made w #[] 0 (Nat.le_refl _) (Nat.zero_le _) rfl) ⟨b, off, none⟩ zs.length cap (ints zs) rfl ?qc1 ?qc2 HO.out ?qc4 ?qc5 ?qc6 ?_)
  case qc1 => rw [ints_length, Nat.mul_one]
  case qc2 => exact HC.out _ ((Below.refl _ _).alloc (Nat.le_refl _) _)
  case qc4 => unfold maxLen; omega
  case qc5 => omega
  case qc6 => simp
  intro v' w1 hown hgrow hnil
  have HR := hidH hown
  have HG := hidH hgrow
  clear hown hgrow hnil
  go_wp2
  go_ret
  exact ⟨v', rfl, (row_of_owns HR.out).1, ((Below.refl _ w).alloc (Nat.le_refl _) _).grown HG.out (by simp) (by intro k hk; simp [Value.ownBlock] at hk; omega)⟩
/-- How many numbers a trimmed list of the first n keeps. -/
def trimTo (zs : List Int) : Nat → Nat
  | 0 => 0
  | 1 => 1
  | n + 2 => if zs.getD (n + 1) 0 = 0 then trimTo zs (n + 1) else n + 2
/-- A list without the zeros at its end, but with one number. -/
def trimL (zs : List Int) : List Int := zs.take (trimTo zs zs.length)
theorem trimTo_le (zs : List Int) (n : Nat) : trimTo zs n ≤ n := by
  induction n with
  | zero => exact Nat.le_refl _
  | succ n ih =>
    cases n with
    | zero => exact Nat.le_refl _
    | succ n =>
      rw [trimTo]
      split
      · omega
      · exact Nat.le_refl _
theorem trimTo_pos (zs : List Int) (n : Nat) (h : 0 < n) : 0 < trimTo zs n := by
  induction n with
  | zero => omega
  | succ n ih =>
    cases n with
    | zero => exact Nat.zero_lt_one
    | succ n =>
      rw [trimTo]
      split
      · exact ih (by omega)
      · omega
theorem trimL_length (zs : List Int) : (trimL zs).length = trimTo zs zs.length := by
  have := trimTo_le zs zs.length
  rw [trimL, List.length_take]; omega
theorem trimTo_zero (zs : List Int) (n : Nat) (z : Int) (hz : zs[n + 1]? = some z) (h : z = 0) : trimTo zs (n + 2) = trimTo zs (n + 1) := by
  rw [trimTo, if_pos (by rw [List.getD_eq_getElem?_getD, hz]; exact h)]
theorem trimTo_nz (zs : List Int) (n : Nat) (z : Int) (hz : zs[n + 1]? = some z) (h : z ≠ 0) : trimTo zs (n + 2) = n + 2 := by
  rw [trimTo, if_neg (by rw [List.getD_eq_getElem?_getD, hz]; exact h)]
end Go.Proofs.Ytpkieconbfgbdaa
