/-
  ColumnOf of the program and of the model: both return the column that stands for a number, or none. No conditions.
-/
import Derived.Test.YtckmnclpediliaaDoorColParts
namespace Go.Proofs.YtckmnclpediliaaDoor
set_option maxRecDepth 4000
open Go.RowKit
/-- What ColumnOf answers. -/
def colA (n wi : Int) : Value := if decide (1 ≤ wi ∧ wi ≤ 12) && fits n wi.toNat then .tuple #[.string ⟨(showB n wi.toNat).toArray⟩, .bool true] else .tuple #[.string ⟨#[]⟩, .bool false]
theorem colA_yes (n : Int) (wd : Nat) (h1 : 1 ≤ wd) (h2 : wd ≤ 12) (h : fits n wd = true) : colA n wd = .tuple #[.string ⟨(showB n wd).toArray⟩, .bool true] := by
  unfold colA
  rw [if_pos (by rw [Int.toNat_natCast, h, Bool.and_true]; exact decide_eq_true ⟨by omega, by omega⟩), Int.toNat_natCast]
theorem colA_no (n : Int) (wd : Nat) (h : fits n wd = false) : colA n wd = .tuple #[.string ⟨#[]⟩, .bool false] := by
  unfold colA
  rw [if_neg (by rw [Int.toNat_natCast, h, Bool.and_false]; decide)]
theorem colA_bad (n wi : Int) (h : decide (1 ≤ wi ∧ wi ≤ 12) = false) : colA n wi = .tuple #[.string ⟨#[]⟩, .bool false] := by
  unfold colA
  rw [h, Bool.false_and, if_neg (by decide)]
end Go.Proofs.YtckmnclpediliaaDoor
