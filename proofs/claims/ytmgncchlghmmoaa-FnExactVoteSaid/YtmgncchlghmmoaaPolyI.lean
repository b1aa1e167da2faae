/-
  The walks of the program's binomial coefficients and values of polynomials, and of the model's. Conditions: arguments between -300 and 300 and valid polynomials where a contract says so.
  Differences of a list and its first differences: the program. Condition: slices of at most 1048576 numbers.
-/
import Derived.Test.YtmgncchlghmmoaaPolyS
import Derived.Test.YtmgncchlghmmoaaPolyV
import Derived.IntWalk
import Derived.Test.YtmgncchlghmmoaaSl
import Derived.Laws.CopyOwn
import Derived.BigRegion
namespace Go.Proofs.Ytmgncchlghmmoaa
set_option maxRecDepth 4000
open Go.RowKit
theorem ev_take (n : Int) (zs : List Int) (k : Nat) (z : Int) (hz : zs[k]? = some z) : evP (zs.take (k + 1)) n = evP (zs.take k) n + z * chN n k := by
  have hk := (List.getElem?_eq_some_iff.1 hz).1
  unfold evP
  rw [List.take_add_one, hz, Option.toList_some, ev_snoc, List.length_take, Nat.zero_add, Nat.min_eq_left (by omega)]
theorem Small.take {p : List Int} (h : Small p) (k : Nat) : Small (p.take k) := ⟨by rw [List.length_take]; have := h.1; omega, fun x hx => h.2 x (List.mem_of_mem_take hx)⟩
theorem term_bd (z n : Int) (h1 : -300 ≤ n) (h2 : n ≤ 300) (k : Nat) (hk : k ≤ 6) (hz : -100000 ≤ z ∧ z ≤ 100000) : -120000000000000000 ≤ z * chN n k ∧ z * chN n k ≤ 120000000000000000 := by
  have ⟨a, b⟩ := chN_bd n h1 h2 k hk
  have h := abs_mul_le (a := z) (b := chN n k) (A := 100000) (B := 1200000000000) (by omega) (by omega)
  omega
end Go.Proofs.Ytmgncchlghmmoaa
namespace Go.Proofs.Ytmgncchlghmmoaa
set_option maxRecDepth 4000
open Go.RowKit
theorem wrap_i (x : Int) : IntKind.i64.wrap x = wrap64 x := by rw [IntKind.wrap_i64]; unfold wrap64; omega
theorem made_ints (n : Nat) : madeCells #[Value.int .i64 0] n = (ints (List.replicate n 0)).toArray := by
  unfold madeCells ints
  apply Array.ext
  · simp
  · intro i h1 h2
    simp [Nat.mod_one]
theorem blk_of_heap {w : World} {g t : Nat} {zs : List Int} (h : w.heap[g]? = some (.cells (ints zs).toArray t (0, 0))) : Blk w g zs := by
  have hlt : g < w.heap.size := (Array.getElem?_eq_some_iff.1 h).1
  refine ⟨hlt, fun j z hj => ⟨?_, ?_⟩⟩
  · unfold World.cell?
    rw [h]
    simp [ints, hj]
  · unfold World.frozen?
    rw [h]
    simp
theorem splice_whole (A B : List Int) (h : A.length = B.length) : splice (ints A) 0 (ints B) = ints B := by
  simp [splice, ints, h]
theorem fill_row {w : World} {b : Nat} {T : List Int} (H : Blk w b (fill T T.length)) : Blk w b T := by rwa [fill_all] at H
/-- A call that answers a row from lo on and a truth. -/
def RowFrom (lo : Nat) (zs : List Int) (b : Bool) (w : World) (e : Ending) (w' : World) : Prop := ∃ v, e = .returned (.tuple #[v, .bool b]) ∧ Row w' lo w'.heap.size v zs ∧ Below w.heap.size w w'
end Go.Proofs.Ytmgncchlghmmoaa
