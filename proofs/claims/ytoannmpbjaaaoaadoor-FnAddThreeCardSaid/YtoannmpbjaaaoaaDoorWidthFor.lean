/-
  WidthFor of the program and of the model: the least width of a column for a number. No conditions.
-/
import Derived.Test.YtoannmpbjaaaoaaDoorColumnOf
namespace Go.Proofs.YtoannmpbjaaaoaaDoor
open Go.RowKit
/-- The least width from k on of a column for a number, of d more widths; 0 if there is none. -/
def leastW (n : Int) : Nat → Nat → Nat
  | _, 0 => 0
  | k, d + 1 => if fits n k then k else leastW n (k + 1) d
def widthN (n : Int) : Nat := leastW n 1 12
theorem widthFor_any (n : Int) (w : World) : Calls Tryd.prog 17 #[.int .i64 n] w (Gives (.int .i64 (widthN n)) w) := by
  go_enter Tryd.func17, Tryd.ntmps17
  go_wp2
  go_loopw [3] (fun i wr => ∃ k d : Nat, 1 ≤ k ∧ k + d = 13 ∧ leastW n k d = widthN n ∧ i = .int .i64 k ∧ Below w.heap.size w wr) (fun i _ => 13 - (intOf i).toNat)
  case atStart => exact ⟨1, 12, by omega, by omega, rfl, rfl, Below.refl _ _⟩
  case round =>
    obtain ⟨k, d, hk, hkd, hl, rfl, hb⟩ := hrel
    have HL : Hid (leastW n k d = widthN n) := hl
    have HD : Hid (k + d = 13) := hkd
    clear hl
    by_cases hlt : k ≤ 12
    · obtain ⟨d, rfl⟩ : ∃ j, d = j + 1 := ⟨d - 1, by omega⟩
      clear hkd
      cases hf : fits n k
      · have HF : Hid (fits n k = false) := hf
        clear hf
        go_wp2_with (go_at_call 10; refine (col_no _ _ hk hlt HF.out _).mono ?_; rintro e w' ⟨rfl, rfl⟩)
        go_roundw
        case rel => exact ⟨k + 1, d, by omega, by have := HD.out; omega, by rw [← HL.out, leastW, HF.out]; rfl, by go_num, hb⟩
        case measure => simp [intOf]; omega
      · have ⟨g1, g2⟩ := (fits_iff n k).1 hf
        have HF : Hid (fits n k = true) := hf
        clear hf
        go_wp2_with (go_at_call 10; refine (col_yes _ _ hk hlt g1 g2 _).mono ?_; rintro e w' ⟨rfl, hb2⟩)
        go_ret
        exact ⟨by rw [← HL.out, leastW, HF.out]; rfl, hb.trans (hb2.mono hb.size)⟩
    · obtain rfl : d = 0 := by omega
      go_wp2
      go_ret
      exact ⟨by rw [← HL.out]; rfl, hb⟩
end Go.Proofs.YtoannmpbjaaaoaaDoor
