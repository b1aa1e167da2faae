/-
  Multiples of polynomials: the program and the model, at every argument. No conditions but that slices fit in memory.
-/
import Derived.Test.YtgenniaklpheoaaPolyFb
import Derived.Test.YtgenniaklpheoaaPolyNewton
namespace Go.Proofs.Ytgenniaklpheoaa
open Go.RowKit
/-- What ScalePoly answers. -/
def scaleL (zs : List Int) (k : Int) : List Int := zs.map fun x => k * x
def scaleA (zs : List Int) (k : Int) : List Int := if polyOk zs && inB 100000 k then resL (scaleL zs k) else []
def scaleB (zs : List Int) (k : Int) : Bool := polyOk zs && inB 100000 k && polyOk (scaleL zs k)
theorem scaleA_len (zs : List Int) (k : Int) : (scaleA zs k).length ≤ 1048576 := by unfold scaleA; split <;> first | exact resL_len _ | simp
theorem scaleL_length (zs : List Int) (k : Int) : (scaleL zs k).length = zs.length := by simp [scaleL]
theorem scaleL_get (zs : List Int) (k : Int) (i : Nat) (z : Int) (h : zs[i]? = some z) : (scaleL zs k)[i]? = some (k * z) := by simp [scaleL, h]
/-- What MulPolys answers. -/
def mulV (zs ys : List Int) (m : Nat) : List Int := (List.range m).map fun (i : Nat) => evP zs i * evP ys i
theorem mulV_length (zs ys : List Int) (m : Nat) : (mulV zs ys m).length = m := by simp [mulV]
theorem mulV_get (zs ys : List Int) (m i : Nat) (h : i < m) : (mulV zs ys m)[i]? = some (evP zs i * evP ys i) := by simp [mulV, h]
def mulOk (zs ys : List Int) : Bool := decide (zs.length + ys.length ≤ 8)
def mulL (zs ys : List Int) : List Int := leadW (zs.length + ys.length - 1) (mulV zs ys (zs.length + ys.length - 1))
def mulA (zs ys : List Int) : List Int := if polyOk zs && polyOk ys && mulOk zs ys then resL (mulL zs ys) else []
def mulB (zs ys : List Int) : Bool := polyOk zs && polyOk ys && mulOk zs ys && polyOk (mulL zs ys)
theorem mulA_len (zs ys : List Int) : (mulA zs ys).length ≤ 1048576 := by unfold mulA; split <;> first | exact resL_len _ | simp
theorem chN_small (k j : Nat) (hk : k ≤ 6) (hj : j ≤ 6) : (chN k j).natAbs ≤ 20 := by
  have hk' : k = 0 ∨ k = 1 ∨ k = 2 ∨ k = 3 ∨ k = 4 ∨ k = 5 ∨ k = 6 := by omega
  have hj' : j = 0 ∨ j = 1 ∨ j = 2 ∨ j = 3 ∨ j = 4 ∨ j = 5 ∨ j = 6 := by omega
  rcases hk' with rfl | rfl | rfl | rfl | rfl | rfl | rfl <;> rcases hj' with rfl | rfl | rfl | rfl | rfl | rfl | rfl <;> decide
theorem ev_small (k : Nat) (hk : k ≤ 6) (p : List Int) (hp : ∀ x ∈ p, x.natAbs ≤ 100000) (j : Nat) (hj : j + p.length ≤ 7) : (ev k p j).natAbs ≤ p.length * 2000000 := by
  induction p generalizing j with
  | nil => simp [ev]
  | cons x p ih =>
    have hx := hp x List.mem_cons_self
    rw [List.length_cons] at hj ⊢
    have hr := ih (fun y hy => hp y (List.mem_cons_of_mem _ hy)) (j + 1) (by omega)
    have hm := abs_mul_le (a := x) (b := chN k j) (A := 100000) (B := 20) hx (chN_small k j hk (by omega))
    rw [ev, Nat.add_mul]
    omega
theorem val_small {zs : List Int} (h : Small zs) (k : Nat) (hk : k ≤ 6) : (evP zs k).natAbs ≤ 14000000 := by
  have hb := ev_small k hk zs (fun x hx => by have := h.2 x hx; omega) 0 (by have := h.1; omega)
  have h1 := h.1
  unfold evP
  omega
theorem prod_bd {zs ys : List Int} (hz : Small zs) (hy : Small ys) (k : Nat) (hk : k ≤ 6) : -196000000000000 ≤ evP zs k * evP ys k ∧ evP zs k * evP ys k ≤ 196000000000000 := by
  have := abs_mul_le (val_small hz k hk) (val_small hy k hk)
  omega
end Go.Proofs.Ytgenniaklpheoaa
