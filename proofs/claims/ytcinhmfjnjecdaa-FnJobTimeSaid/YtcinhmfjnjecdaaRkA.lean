/-
  The draws of numbers, digits and ways of rounding. No conditions but that the bytes that came in can be read.
-/
import Derived.Test.YtcinhmfjnjecdaaKitP
import Derived.OwnWalk
namespace Go.Proofs.Ytcinhmfjnjecdaa
set_option maxRecDepth 4000
open Go.RowKit
/-- Three drawn numbers. -/
def DrawN3 (w : World) (e : Ending) (w' : World) : Prop := ∃ n k y : Int, e = .returned (.tuple #[.int .i64 n, .int .i64 k, .int .i64 y]) ∧ -1 ≤ k ∧ k ≤ 7 ∧ Below w.heap.size w w'
def Draw1N (w : World) (e : Ending) (w' : World) : Prop := ∃ n : Int, e = .returned (.int .i64 n) ∧ Below w.heap.size w w'
/-- A drawn number, of a reader that lies in block r. -/
def NumR (r B : Nat) (w : World) (e : Ending) (w' : World) : Prop := ∃ n : Int, e = .returned (.int .i64 n) ∧ Rd w' r (B + 5) ∧ Onto r w w'
def NumR2 (r B : Nat) (w : World) (e : Ending) (w' : World) : Prop := ∃ n k : Int, e = .returned (.tuple #[.int .i64 n, .int .i64 k]) ∧ -1 ≤ n ∧ n ≤ 7 ∧ Rd w' r (B + 5) ∧ Onto r w w'
def gdNums1 : List Int := [-1, 7, 6, 0]
def gdNums2 : List Int := [-1, 3, 0, 9223372036854775807]
def gdNums3 : List Int := [1, 2, 3, 0]
def nbNums : List Int := [0, 5, -5, 15, 25, -15, -25, 50, 150, 1000000000, 1000000001, -1000000000, -1000000001, 9223372036854775807, -9223372036854775808]
end Go.Proofs.Ytcinhmfjnjecdaa
