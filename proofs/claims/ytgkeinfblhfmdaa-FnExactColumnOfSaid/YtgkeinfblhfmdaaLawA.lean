/-
  The walks of three laws: ColumnOf and WidthFor answer as their models, at every argument. No conditions.
-/
import Derived.Test.YtgkeinfblhfmdaaWidthFor
namespace Go.Proofs.Ytgkeinfblhfmdaa
open Go.RowKit
theorem exWidthFor (n : Int) (w : World) : Calls Try.prog 5 #[.int .i64 n] w (Gives (.bool true) w) := by
  go_enter Try.func5, Try.ntmps5
  go_wp2_with (first | (go_at_call 8; refine (sWidthFor_any _ _).mono ?_; rintro e w' ⟨rfl, rfl⟩) | (go_at_call 7; refine (widthFor_any _ _).mono ?_; rintro e w' ⟨rfl, hb⟩))
  go_ret
  exact ⟨rfl, hb⟩
theorem exColumnOf (n wi : Int) (w : World) : Calls Try.prog 4 #[.int .i64 n, .int .i64 wi] w (Gives (.bool true) w) := by
  have hs := sCol_any n wi w
  have hi := col_any n wi
  by_cases hc : (decide (1 ≤ wi ∧ wi ≤ 12) && fits n wi.toNat) = true
  · have e : colA n wi = .tuple #[.string ⟨(showB n wi.toNat).toArray⟩, .bool true] := by unfold colA; rw [if_pos hc]
    rw [e] at hs hi
    clear hc e
    have HS := hidH hs
    have HI := hidH hi
    clear hs hi
    generalize (⟨(showB n wi.toNat).toArray⟩ : ByteArray) = c at *
    go_enter Try.func4, Try.ntmps4
    go_wp2_with fail
    refine HS.out.mono ?_; rintro e w1 ⟨rfl, hb1⟩
    go_wp2_with fail
    refine (HI.out _).mono ?_; rintro e w2 ⟨rfl, hb2⟩
    go_wp2
    go_ret
    exact ⟨rfl, hb1.trans (hb2.mono hb1.size)⟩
  · have e : colA n wi = .tuple #[.string ⟨#[]⟩, .bool false] := by unfold colA; rw [if_neg hc]
    rw [e] at hs hi
    clear hc e
    have HS := hidH hs
    have HI := hidH hi
    clear hs hi
    go_enter Try.func4, Try.ntmps4
    go_wp2_with fail
    refine HS.out.mono ?_; rintro e w1 ⟨rfl, hb1⟩
    go_wp2_with fail
    refine (HI.out _).mono ?_; rintro e w2 ⟨rfl, hb2⟩
    go_wp2
    go_ret
    exact ⟨rfl, hb1.trans (hb2.mono hb1.size)⟩
end Go.Proofs.Ytgkeinfblhfmdaa
