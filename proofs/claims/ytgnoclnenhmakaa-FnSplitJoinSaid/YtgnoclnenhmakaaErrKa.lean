/-
  The draws of numbers for the laws of chapter 4. No conditions but that the bytes that came in can be read.
-/
import Derived.Test.YtgnoclnenhmakaaKitP
import Derived.OwnWalk
namespace Go.Proofs.Ytgnoclnenhmakaa
set_option maxRecDepth 4000
open Go.RowKit
/-- Two drawn numbers. -/
def DrawN2 (w : World) (e : Ending) (w' : World) : Prop := ∃ n k : Int, e = .returned (.tuple #[.int .i64 n, .int .i64 k]) ∧ Below w.heap.size w w'
/-- Four drawn numbers. -/
def DrawN4 (w : World) (e : Ending) (w' : World) : Prop := ∃ c t a n : Int, e = .returned (.tuple #[.int .i64 c, .int .i64 t, .int .i64 a, .int .i64 n]) ∧ Below w.heap.size w w'
def exNums1 : List Int := [1000000000, 1000000001, -1, 999999999]
def exNums2 : List Int := [-1, 8, 9, 9223372036854775807]
def paNums1 : List Int := [-1, 8, 9223372036854775807]
def paNums2 : List Int := [1000000000, 1000000001, -9223372036854775808]
def tuNums1 : List Int := [-1, 6, 7]
def tuNums2 : List Int := [-1, 59, 60]
def tuNums3 : List Int := [100000, 100001, -9223372036854775808]
def slNums : List Int := [-1, 60, 61]
/-- A drawn slip. -/
def Slip3 (r B : Nat) (w : World) (e : Ending) (w' : World) : Prop := ∃ c t a : Int, e = .returned (.tuple #[.int .i64 c, .int .i64 t, .int .i64 a]) ∧ Rd w' r (B + 5) ∧ Onto r w w'
theorem results_tmp4k {fn : Func} {t u v x : Tmp} (h : fn.results = #[.tmp t, .tmp u, .tmp v, .tmp x]) (tmps : Array Value) (P : Program) (w : World) :
    (results fn tmps).run P w = .ok (.tuple #[tmps.getD t undef, tmps.getD u undef, tmps.getD v undef, tmps.getD x undef]) w := by
  simp [results, h]
end Go.Proofs.Ytgnoclnenhmakaa
