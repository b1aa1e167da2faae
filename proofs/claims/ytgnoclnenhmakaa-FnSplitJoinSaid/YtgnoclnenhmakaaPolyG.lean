/-
  DifferencePoly: the program and the model, at every argument. Condition: slices of at most 1048576 numbers.
-/
import Derived.Test.YtgnoclnenhmakaaPolyT
namespace Go.Proofs.Ytgnoclnenhmakaa
set_option maxRecDepth 4000
open Go.RowKit
/-- What DifferencePoly answers. -/
def diffA (zs : List Int) : List Int := if polyOk zs then (if zs.length = 1 then [0] else zs.tail) else []
theorem diffA_len (zs : List Int) : (diffA zs).length ≤ 1048576 := by
  unfold diffA
  split
  · rename_i h
    have h7 := (polyOk_small _ h).2.1
    split
    · simp
    · rw [List.length_tail]; omega
  · simp
theorem row_lit1 (w : World) (x : Int) (t : Nat) : Row (w.alloc (.cells #[.int .i64 x] t)) w.heap.size (w.alloc (.cells #[.int .i64 x] t)).heap.size (.slice (some ⟨w.heap.size, 0, none⟩) 1 1) [x] :=
  (Blk.lit w t [x]).row (Nat.le_refl _) (by simp) (Nat.le_refl _) (show 1 ≤ maxLen by unfold maxLen; decide) rfl
end Go.Proofs.Ytgnoclnenhmakaa
