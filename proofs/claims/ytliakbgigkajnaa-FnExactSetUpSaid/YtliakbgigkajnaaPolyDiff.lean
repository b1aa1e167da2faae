/-
  Differences of lists of numbers, with and without the wraparound of 64 bits, and those of the values of a polynomial. No conditions but bounds of numbers.
-/
import Derived.Test.YtliakbgigkajnaaPolyMath
namespace Go.Proofs.Ytliakbgigkajnaa
set_option maxRecDepth 4000
open Go.RowKit
/-- The differences of neighbors. -/
def dif : List Int → List Int
  | [] => []
  | [_] => []
  | a :: b :: l => (b - a) :: dif (b :: l)
theorem dif_length (l : List Int) : (dif l).length = l.length - 1 := by
  induction l with
  | nil => rfl
  | cons a l ih =>
    cases l with
    | nil => rfl
    | cons b l => rw [dif, List.length_cons, ih]; simp
theorem dif_get (l : List Int) (i : Nat) (x y : Int) (hx : l[i]? = some x) (hy : l[i + 1]? = some y) : (dif l)[i]? = some (y - x) := by
  induction l generalizing i with
  | nil => simp at hx
  | cons a l ih =>
    cases l with
    | nil => simp at hy
    | cons b l =>
      cases i with
      | zero => simp at hx hy; subst hx; subst hy; rw [dif]; rfl
      | succ i => rw [dif, List.getElem?_cons_succ]; exact ih i (by simpa using hx) (by simpa using hy)
/-- The differences of neighbors as 64 bits hold them. -/
def difW (l : List Int) : List Int := (dif l).map wrap64
theorem difW_length (l : List Int) : (difW l).length = l.length - 1 := by rw [difW, List.length_map, dif_length]
theorem difW_get (l : List Int) (i : Nat) (x y : Int) (hx : l[i]? = some x) (hy : l[i + 1]? = some y) : (difW l)[i]? = some (wrap64 (y - x)) := by
  rw [difW, List.getElem?_map, dif_get l i x y hx hy]; rfl
/-- The first numbers of a list, of its differences, and so on, m of them. -/
def leadW : Nat → List Int → List Int
  | 0, _ => []
  | m + 1, l => l.headD 0 :: leadW m (difW l)
theorem leadW_length (m : Nat) (l : List Int) : (leadW m l).length = m := by
  induction m generalizing l with
  | zero => rfl
  | succ m ih => rw [leadW, List.length_cons, ih]
/-- The list after some differences. -/
def difN : Nat → List Int → List Int
  | 0, l => l
  | m + 1, l => difN m (difW l)
theorem difN_snoc (m : Nat) (l : List Int) : difN (m + 1) l = difW (difN m l) := by
  induction m generalizing l with
  | zero => rfl
  | succ m ih => rw [difN, ih]; rfl
theorem difN_length (m : Nat) (l : List Int) : (difN m l).length = l.length - m := by
  induction m generalizing l with
  | zero => rfl
  | succ m ih => rw [difN, ih, difW_length]; omega
theorem leadW_snoc (m : Nat) (l : List Int) : leadW (m + 1) l = leadW m l ++ [(difN m l).headD 0] := by
  induction m generalizing l with
  | zero => rfl
  | succ m ih => rw [leadW, ih]; rfl
theorem leadW_get (m k : Nat) (l : List Int) (hk : k < m) : (leadW m l)[k]? = some ((difN k l).headD 0) := by
  induction m generalizing k l with
  | zero => omega
  | succ m ih =>
    cases k with
    | zero => rfl
    | succ k => rw [leadW, List.getElem?_cons_succ, ih k (difW l) (by omega)]; rfl
theorem leadW_take (m : Nat) (l : List Int) (c : Nat) (hc : m ≤ c) (hl : m ≤ l.length) : leadW m (l.take c) = leadW m l := by
  have hd : ∀ (l : List Int) (c : Nat), dif (l.take (c + 1)) = (dif l).take c := fun l => by
    induction l with
    | nil => intro c; simp [dif]
    | cons a l ih =>
      intro c
      cases l with
      | nil => cases c <;> simp [dif]
      | cons b l =>
        cases c with
        | zero => simp [dif]
        | succ c =>
          have := ih c
          rw [List.take_succ_cons] at this
          rw [List.take_succ_cons, List.take_succ_cons, dif, dif, this, List.take_succ_cons]
  induction m generalizing l c with
  | zero => rfl
  | succ m ih =>
    obtain ⟨c, rfl⟩ : ∃ d, c = d + 1 := ⟨c - 1, by omega⟩
    rw [leadW, leadW, difW, hd, List.map_take]
    have := ih (difW l) c (by omega) (by rw [difW_length]; omega)
    rw [show (List.map wrap64 (dif l)) = difW l from rfl, this]
    cases l with
    | nil => simp at hl
    | cons a l => rfl
/-! ### Values of a polynomial -/
/-- The values from n on, m of them. -/
def vals (p : List Int) (n : Int) (m : Nat) : List Int := (List.range m).map fun (i : Nat) => evP p (n + i)
theorem vals_length (p : List Int) (n : Int) (m : Nat) : (vals p n m).length = m := by simp [vals]
theorem vals_get (p : List Int) (n : Int) (m i : Nat) (h : i < m) : (vals p n m)[i]? = some (evP p (n + i)) := by
  simp [vals, h]
theorem vals_snoc (p : List Int) (n : Int) (m : Nat) : vals p n (m + 1) = vals p n m ++ [evP p (n + m)] := by
  simp [vals, List.range_succ]
theorem list_ext {α : Type} {l m : List α} (hl : l.length = m.length) (h : ∀ (i : Nat) (x y : α), l[i]? = some x → m[i]? = some y → x = y) : l = m := by
  apply List.ext_getElem? 
  intro i
  by_cases hi : i < l.length
  · rw [List.getElem?_eq_getElem hi, List.getElem?_eq_getElem (by omega)]
    rw [h i _ _ (List.getElem?_eq_getElem hi) (List.getElem?_eq_getElem (by omega))]
  · rw [List.getElem?_eq_none (by omega), List.getElem?_eq_none (by omega)]
theorem vals_dif (p : List Int) (n : Int) (m : Nat) : dif (vals p n (m + 1)) = vals p.tail n m := by
  refine list_ext (by rw [dif_length, vals_length, vals_length]; omega) fun i x y hx hy => ?_
  have hi : i < m := by
    have := (List.getElem?_eq_some_iff.1 hy).1
    rwa [vals_length] at this
  rw [vals_get _ _ _ _ hi] at hy
  rw [dif_get _ i _ _ (vals_get p n (m + 1) i (by omega)) (vals_get p n (m + 1) (i + 1) (by omega))] at hx
  injection hx with hx
  injection hy with hy
  rw [← hx, ← hy, show n + ((i + 1 : Nat) : Int) = n + i + 1 by omega, evP_step]
  omega
theorem wrap64_id (x : Int) (h1 : -9223372036854775808 ≤ x) (h2 : x ≤ 9223372036854775807) : wrap64 x = x := IntWalk.wrap64_in x ⟨h1, h2⟩
/-- All numbers lie within the bounds of a polynomial's differences. -/
def Small (p : List Int) : Prop := p.length ≤ 7 ∧ ∀ x ∈ p, -100000 ≤ x ∧ x ≤ 100000
theorem Small.tail {p : List Int} (h : Small p) : Small p.tail := ⟨by rw [List.length_tail]; have := h.1; omega, fun x hx => h.2 x (List.mem_of_mem_tail hx)⟩
theorem Small.bd {p : List Int} (h : Small p) (n : Int) (h1 : -300 ≤ n) (h2 : n ≤ 300) : -900000000000000000 ≤ evP p n ∧ evP p n ≤ 900000000000000000 := evP_bd p n h1 h2 h.2 h.1
theorem Small.drop {p : List Int} (h : Small p) (k : Nat) : Small (p.drop k) := ⟨by rw [List.length_drop]; have := h.1; omega, fun x hx => h.2 x (List.mem_of_mem_drop hx)⟩
theorem vals_difW (p : List Int) (hp : Small p) (n : Int) (m : Nat) (h1 : -300 ≤ n) (h2 : n + m ≤ 300) : difW (vals p n (m + 1)) = vals p.tail n m := by
  rw [difW, vals_dif]
  refine (List.map_congr_left fun x hx => ?_).trans (List.map_id _)
  obtain ⟨i, hi, rfl⟩ := List.mem_map.1 hx
  have hi := List.mem_range.1 hi
  have := hp.tail.bd (n + i) (by omega) (by omega)
  exact wrap64_id _ (by omega) (by omega)
/-- The differences of a polynomial at an argument. -/
def shiftL (p : List Int) (n : Int) (m : Nat) : List Int := (List.range m).map fun (k : Nat) => evP (p.drop k) n
theorem shiftL_length (p : List Int) (n : Int) (m : Nat) : (shiftL p n m).length = m := by simp [shiftL]
theorem shiftL_get (p : List Int) (n : Int) (m k : Nat) (h : k < m) : (shiftL p n m)[k]? = some (evP (p.drop k) n) := by simp [shiftL, h]
theorem shiftL_snoc (p : List Int) (n : Int) (m : Nat) : shiftL p n (m + 1) = shiftL p n m ++ [evP (p.drop m) n] := by simp [shiftL, List.range_succ]
theorem lead_vals (p : List Int) (hp : Small p) (n : Int) (m : Nat) (h1 : -300 ≤ n) (h2 : n + m ≤ 300) : leadW m (vals p n m) = shiftL p n m := by
  induction m generalizing p with
  | zero => rfl
  | succ m ih =>
    rw [leadW, vals_difW p hp n m h1 (by omega), ih p.tail hp.tail (by omega)]
    have e : (vals p n (m + 1)).headD 0 = evP p n := by
      rw [List.headD_eq_head?_getD, List.head?_eq_getElem?, vals_get p n (m + 1) 0 (by omega)]
      simp
    rw [e]
    unfold shiftL
    rw [List.range_succ_eq_map, List.map_cons, List.map_map]
    simp [Function.comp_def]
end Go.Proofs.Ytliakbgigkajnaa
