/-
  Sums of powers: the program and the model. No conditions but that slices fit in memory.
-/
import Derived.Test.YtbgkfiogaeeplaaPolyK
namespace Go.Proofs.Ytbgkfiogaeeplaa
open Go.RowKit
/-- The coefficients of powers, summed up from the highest one: what both programs reckon, with the wraparound of 64 bits. -/
def pwW (n : Int) : List Int → Int
  | [] => 0
  | x :: c => wrap64 (wrap64 (pwW n c * n) + x)
/-- The sums of powers at 0, 1 and so on. -/
def powV (c : List Int) (m : Nat) : List Int := (List.range m).map fun (i : Nat) => pwW i c
theorem powV_length (c : List Int) (m : Nat) : (powV c m).length = m := by simp [powV]
theorem powV_get (c : List Int) (m i : Nat) (h : i < m) : (powV c m)[i]? = some (pwW i c) := by simp [powV, h]
theorem pwW_drop (n : Int) (c : List Int) (k : Nat) (x : Int) (h : c[k]? = some x) : pwW n (c.drop k) = wrap64 (wrap64 (pwW n (c.drop (k + 1)) * n) + x) := by
  obtain ⟨hk, rfl⟩ := List.getElem?_eq_some_iff.1 h
  rw [List.drop_eq_getElem_cons hk, pwW]
/-- What FromPowers answers. -/
def fromL (zs : List Int) : List Int := leadW zs.length (powV zs zs.length)
def fromA (zs : List Int) : List Int := if polyOk zs then resL (fromL zs) else []
def fromB (zs : List Int) : Bool := polyOk zs && polyOk (fromL zs)
theorem fromA_len (zs : List Int) : (fromA zs).length ≤ 1048576 := by unfold fromA; split <;> first | exact resL_len _ | simp
end Go.Proofs.Ytbgkfiogaeeplaa
