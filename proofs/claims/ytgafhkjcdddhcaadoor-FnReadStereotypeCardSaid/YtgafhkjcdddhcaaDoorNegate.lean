/-
  NegateColumn of the program, at a column and at no column. Condition: a string of at most 2 to the power of 63, minus 1, bytes.
  The program's ColumnOf at each kind of argument, and the model's test whether a number fits a width. Conditions: as each contract says.
  ColumnOf of the program and of the model: both return the column that stands for a number, or none. No conditions.
  SignedOf, CastNines, CastElevens and WidenColumn of the program and of the model, at a column and at no column. Condition: a string of at most 2 to the power of 63, minus 1, bytes.
-/
import Derived.Test.YtgafhkjcdddhcaaDoorValues
import Derived.Test.YtgafhkjcdddhcaaDoorSpecA
namespace Go.Proofs.YtgafhkjcdddhcaaDoor
set_option maxRecDepth 4000
open Go.RowKit
variable (s : ByteArray) (hs : s.size ≤ 9223372036854775807) (w : World)
include hs
end Go.Proofs.YtgafhkjcdddhcaaDoor
namespace Go.Proofs.YtgafhkjcdddhcaaDoor
set_option maxRecDepth 4000
open Go.RowKit
end Go.Proofs.YtgafhkjcdddhcaaDoor
namespace Go.Proofs.YtgafhkjcdddhcaaDoor
set_option maxRecDepth 4000
open Go.RowKit
/-- What ColumnOf answers. -/
def colA (n wi : Int) : Value := if decide (1 ≤ wi ∧ wi ≤ 12) && fits n wi.toNat then .tuple #[.string ⟨(showB n wi.toNat).toArray⟩, .bool true] else .tuple #[.string ⟨#[]⟩, .bool false]
theorem colA_yes (n : Int) (wd : Nat) (h1 : 1 ≤ wd) (h2 : wd ≤ 12) (h : fits n wd = true) : colA n wd = .tuple #[.string ⟨(showB n wd).toArray⟩, .bool true] := by
  unfold colA
  rw [if_pos (by rw [Int.toNat_natCast, h, Bool.and_true]; exact decide_eq_true ⟨by omega, by omega⟩), Int.toNat_natCast]
theorem colA_no (n : Int) (wd : Nat) (h : fits n wd = false) : colA n wd = .tuple #[.string ⟨#[]⟩, .bool false] := by
  unfold colA
  rw [if_neg (by rw [Int.toNat_natCast, h, Bool.and_false]; decide)]
theorem colA_bad (n wi : Int) (h : decide (1 ≤ wi ∧ wi ≤ 12) = false) : colA n wi = .tuple #[.string ⟨#[]⟩, .bool false] := by
  unfold colA
  rw [h, Bool.false_and, if_neg (by decide)]
end Go.Proofs.YtgafhkjcdddhcaaDoor
namespace Go.Proofs.YtgafhkjcdddhcaaDoor
set_option maxRecDepth 4000
open Go.RowKit
variable (s : ByteArray) (hs : s.size ≤ 9223372036854775807) (w : World)
include hs
omit hs s w in
/-- The number that a column stands for. -/
def sgnS (s : ByteArray) : Int := if tenP s.size / 2 ≤ valS s then valS s - tenP s.size else valS s
omit hs s w in
/-- What ColumnOf answers has two parts. -/
theorem colA_two (n wi : Int) : ∃ (t : ByteArray) (b : Bool), colA n wi = .tuple #[.string t, .bool b] := by
  unfold colA
  split
  · exact ⟨_, _, rfl⟩
  · exact ⟨_, _, rfl⟩
end Go.Proofs.YtgafhkjcdddhcaaDoor
