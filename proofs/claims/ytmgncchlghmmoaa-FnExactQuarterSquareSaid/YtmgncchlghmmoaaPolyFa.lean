/-
  Differences of a list and its first differences: the model. Condition: slices of at most 1048576 numbers.
  Values of a polynomial one after the other and its differences at an argument: the program. Condition: valid polynomials and arguments between -300 and 300.
  ShiftPoly, StepPoly and TurnPoly: the program and the model, at every argument. No conditions but that slices fit in memory.
-/
import Derived.Test.YtmgncchlghmmoaaPolyI
import Derived.Test.YtmgncchlghmmoaaSl
import Derived.Laws.AppendOwn
import Derived.StillTactics
import Derived.OwnWalk
import Derived.Laws.Pointers
import Derived.Deep.RegionHeld3
import Derived.Deep.AppendLies
namespace Go.Proofs.Ytmgncchlghmmoaa
set_option maxRecDepth 4000
open Go.RowKit
theorem wrap_64 (x : Int) : IntKind.i64.wrap x = wrap64 x := by rw [IntKind.wrap_i64]; unfold wrap64; omega
theorem ints_snoc (L : List Int) (k : Nat) (x : Int) (h : L[k]? = some x) : ints (L.take k) ++ [Value.int .i64 x] = ints (L.take (k + 1)) := by
  rw [List.take_add_one, h, ints_append]; rfl
/-- Values at arguments that go on by steps. -/
def valsS (p : List Int) (f s : Int) (n : Nat) : List Int := (List.range n).map fun (i : Nat) => evP p (f + s * i)
theorem valsS_length (p : List Int) (f s : Int) (n : Nat) : (valsS p f s n).length = n := by simp [valsS]
theorem valsS_get (p : List Int) (f s : Int) (n i : Nat) (h : i < n) : (valsS p f s n)[i]? = some (evP p (f + s * i)) := by simp [valsS, h]
theorem valsS_one (p : List Int) (n : Int) (m : Nat) : valsS p n 1 m = vals p n m := by
  unfold valsS vals
  exact List.map_congr_left fun i _ => by rw [Int.one_mul]
end Go.Proofs.Ytmgncchlghmmoaa
namespace Go.Proofs.Ytmgncchlghmmoaa
set_option maxRecDepth 4000
open Go.RowKit
theorem shift_step (zs : List Int) (n : Int) (k : Nat) : evP (zs.drop k) n + evP (zs.drop (k + 1)) n = evP (zs.drop k) (n + 1) := by
  rw [evP_step, List.tail_drop]
/-- A call that moves a row of differences on to the next argument. -/
def Up (b : Nat) (L : List Int) (w : World) (e : Ending) (w' : World) : Prop := e = .returned (.tuple #[]) ∧ Blk w' b L ∧ Onto b w w'
end Go.Proofs.Ytmgncchlghmmoaa
namespace Go.Proofs.Ytmgncchlghmmoaa
set_option maxRecDepth 4000
open Go.RowKit
/-- What ShiftPoly answers. -/
def shiftA (zs : List Int) (n : Int) : List Int := if polyOk zs && inB 200 n then resL (shiftL zs n zs.length) else []
def shiftB (zs : List Int) (n : Int) : Bool := polyOk zs && inB 200 n && polyOk (shiftL zs n zs.length)
def stepOk (m : Int) : Bool := decide (1 ≤ m ∧ m ≤ 10)
/-- What StepPoly answers. -/
def everyL (zs : List Int) (s : Int) : List Int := leadW zs.length (valsS zs 0 s zs.length)
def stepA (zs : List Int) (m : Int) : List Int := if polyOk zs && stepOk m then resL (everyL zs m) else []
def stepB (zs : List Int) (m : Int) : Bool := polyOk zs && stepOk m && polyOk (everyL zs m)
/-- What TurnPoly answers. -/
def turnA (zs : List Int) : List Int := if polyOk zs then resL (everyL zs (-1)) else []
def turnB (zs : List Int) : Bool := polyOk zs && polyOk (everyL zs (-1))
theorem shiftA_len (zs : List Int) (n : Int) : (shiftA zs n).length ≤ 1048576 := by unfold shiftA; split <;> first | exact resL_len _ | simp
theorem stepA_len (zs : List Int) (n : Int) : (stepA zs n).length ≤ 1048576 := by unfold stepA; split <;> first | exact resL_len _ | simp
theorem turnA_len (zs : List Int) : (turnA zs).length ≤ 1048576 := by unfold turnA; split <;> first | exact resL_len _ | simp
theorem lead_shift (zs : List Int) (hs : Small zs) (n : Int) (h1 : -200 ≤ n) (h2 : n ≤ 200) : leadW zs.length (valsS zs n 1 zs.length) = shiftL zs n zs.length := by
  rw [valsS_one, lead_vals zs hs n zs.length (by omega) (by have := hs.1; omega)]
theorem inB_2 (n : Int) (h : inB 200 n = true) : -200 ≤ n ∧ n ≤ 200 := of_decide_eq_true h
end Go.Proofs.Ytmgncchlghmmoaa
