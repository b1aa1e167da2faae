/-
  The walks of the program's binomial coefficients and values of polynomials, and of the model's. Conditions: arguments between -300 and 300 and valid polynomials where a contract says so.
-/
import Derived.Test.YtliakbgigkajnaaDoorPolyS
import Derived.Test.YtliakbgigkajnaaDoorPolyV
import Derived.IntWalk
namespace Go.Proofs.YtliakbgigkajnaaDoor
set_option maxRecDepth 4000
open Go.RowKit
theorem ev_take (n : Int) (zs : List Int) (k : Nat) (z : Int) (hz : zs[k]? = some z) : evP (zs.take (k + 1)) n = evP (zs.take k) n + z * chN n k := by
  have hk := (List.getElem?_eq_some_iff.1 hz).1
  unfold evP
  rw [List.take_add_one, hz, Option.toList_some, ev_snoc, List.length_take, Nat.zero_add, Nat.min_eq_left (by omega)]
theorem Small.take {p : List Int} (h : Small p) (k : Nat) : Small (p.take k) := ⟨by rw [List.length_take]; have := h.1; omega, fun x hx => h.2 x (List.mem_of_mem_take hx)⟩
theorem term_bd (z n : Int) (h1 : -300 ≤ n) (h2 : n ≤ 300) (k : Nat) (hk : k ≤ 6) (hz : -100000 ≤ z ∧ z ≤ 100000) : -120000000000000000 ≤ z * chN n k ∧ z * chN n k ≤ 120000000000000000 := by
  have ⟨a, b⟩ := chN_bd n h1 h2 k hk
  have h := abs_mul_le (a := z) (b := chN n k) (A := 100000) (B := 1200000000000) (by omega) (by omega)
  omega
end Go.Proofs.YtliakbgigkajnaaDoor
