/-
  The laws' own functions on slices of numbers: a copy, equality, marks and whether they still stand. Condition: slices of at most 1048576 numbers.
-/
import Derived.Test.YtffmhcahiabicaaDoorSl
import Derived.BigQuiet
namespace Go.Proofs.YtffmhcahiabicaaDoor
set_option maxRecDepth 4000
open Go.RowKit
theorem infoInt : (Tryd.prog.info? 3).map (fun i => (i.zero, i.size, i.bytes)) = some (some (.int .i64 0), 1, 8) := by kernel_rfl
/-- A call that answers a new row of numbers and a truth. -/
def NewRowB (zs : List Int) (b : Bool) (w : World) (e : Ending) (w' : World) : Prop := ∃ v, e = .returned (.tuple #[v, .bool b]) ∧ Row w' w.heap.size w'.heap.size v zs ∧ Below w.heap.size w w'
/-- A call that answers a new row of numbers. -/
def NewRow (zs : List Int) (w : World) (e : Ending) (w' : World) : Prop := ∃ v, e = .returned v ∧ Row w' w.heap.size w'.heap.size v zs ∧ Below w.heap.size w w'
/-- The numbers from k on, n of them. -/
def upFrom (k : Int) (n : Nat) : List Int := (List.range n).map fun (i : Nat) => k + i
theorem upFrom_length (k : Int) (n : Nat) : (upFrom k n).length = n := by simp [upFrom]
theorem upFrom_get (k : Int) (n i : Nat) (h : i < n) : (upFrom k n)[i]? = some (k + i) := by simp [upFrom, h]
/-- A call that marks a row from k on. -/
def Marks (v : Value) (lo hi n : Nat) (k : Int) (w : World) (e : Ending) (w' : World) : Prop := e = .returned (.int .i64 (k + n)) ∧ Row w' lo hi v (upFrom k n) ∧ Apart lo hi w w'
/-- The first numbers of a list replaced. -/
def over (T zs : List Int) (k : Nat) : List Int := T.take k ++ zs.drop k
theorem over_set (T zs : List Int) (k : Nat) (x : Int) (hl : T.length = zs.length) (h : T[k]? = some x) : (over T zs k).set k x = over T zs (k + 1) := by
  have hk := (List.getElem?_eq_some_iff.1 h).1
  have hl2 : (T.take k).length = k := by simp; omega
  unfold over
  rw [List.set_append_right _ _ (by omega), hl2, Nat.sub_self, List.drop_eq_getElem_cons (by omega), List.set_cons_zero, List.take_add_one, h]
  simp
theorem over_get (T zs : List Int) (k : Nat) (hl : T.length = zs.length) (h : k < zs.length) : (over T zs k)[k]? = zs[k]? := by
  unfold over
  rw [List.getElem?_append_right (by simp; omega), List.length_take, Nat.min_eq_left (by omega), Nat.sub_self, List.getElem?_drop, Nat.add_zero]
theorem over_all (T zs : List Int) (hl : T.length = zs.length) : over T zs zs.length = T := by
  unfold over
  rw [List.drop_length, List.append_nil, List.take_of_length_le (by omega)]
theorem over_zero (T zs : List Int) : over T zs 0 = zs := by simp [over]
theorem over_at (T zs : List Int) (k : Nat) (hl : T.length = zs.length) (h : k < zs.length) : ∃ x, (over T zs k)[k]? = some x := ⟨zs[k], by
  unfold over
  rw [List.getElem?_append_right (by simp; omega), List.length_take, Nat.min_eq_left (by omega), Nat.sub_self, List.getElem?_drop, Nat.add_zero, List.getElem?_eq_getElem h]⟩
end Go.Proofs.YtffmhcahiabicaaDoor
