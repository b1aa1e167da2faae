/-
  Polynomials given by their differences, and differences of lists, in plain mathematics. No conditions but bounds of numbers.
  Differences of lists of numbers, with and without the wraparound of 64 bits, and those of the values of a polynomial. No conditions but bounds of numbers.
-/
import Derived.IntWalk
namespace Go.Proofs.Ytgnoclnenhmakaa
set_option maxRecDepth 4000
open Go.RowKit
/-! ### Binomial coefficients -/
/-- The product of n, n - 1 and so on, k of them. -/
def ff (n : Int) : Nat → Int
  | 0 => 1
  | k + 1 => ff n k * (n - k)
/-- The product of 1 to k. -/
def fac : Nat → Int
  | 0 => 1
  | k + 1 => (k + 1) * fac k
/-- A binomial coefficient, as both programs reckon it. -/
def chN (n : Int) : Nat → Int
  | 0 => 1
  | k + 1 => (chN n k * (n - k)).tdiv (k + 1)
theorem fac_pos (k : Nat) : 0 < fac k := by
  induction k with
  | zero => decide
  | succ k ih => rw [fac]; exact Int.mul_pos (by omega) ih
theorem ff_zero (k : Nat) : ff 0 (k + 1) = 0 := by
  induction k with
  | zero => decide
  | succ k ih => rw [ff, ih, Int.zero_mul]
theorem ff_head (n : Int) (k : Nat) : ff (n + 1) (k + 1) = (n + 1) * ff n k := by
  induction k with
  | zero => simp [ff]
  | succ k ih =>
    rw [ff, ih, ff, Int.mul_assoc]
    congr 2
    omega
theorem ff_step (n : Int) (k : Nat) : ff (n + 1) (k + 1) = ff n (k + 1) + (k + 1) * ff n k := by
  rw [ff_head, ff, Int.mul_comm (ff n k), ← Int.add_mul]
  congr 1
  omega
theorem ff_dvd (k : Nat) : ∀ n : Int, fac k ∣ ff n k := by
  induction k with
  | zero => intro n; exact ⟨1, by simp [ff, fac]⟩
  | succ k ih =>
    have hstep : ∀ n : Int, fac (k + 1) ∣ ff (n + 1) (k + 1) ↔ fac (k + 1) ∣ ff n (k + 1) := fun n => by
      rw [ff_step]
      have hd : fac (k + 1) ∣ (k + 1) * ff n k := by rw [fac]; exact Int.mul_dvd_mul_left _ (ih n)
      exact Int.dvd_add_left hd
    have up : ∀ m : Nat, fac (k + 1) ∣ ff (m : Int) (k + 1) := fun m => by
      induction m with
      | zero => rw [show ((0 : Nat) : Int) = 0 from rfl, ff_zero]; exact Int.dvd_zero _
      | succ m ihm => exact (hstep m).2 ihm
    have down : ∀ m : Nat, fac (k + 1) ∣ ff (-(m : Int)) (k + 1) := fun m => by
      induction m with
      | zero => exact up 0
      | succ m ihm =>
        have := hstep (-((m + 1 : Nat) : Int))
        rw [show -((m + 1 : Nat) : Int) + 1 = -(m : Int) by omega] at this
        exact this.1 ihm
    intro n
    rcases Int.le_total 0 n with h | h
    · obtain ⟨m, rfl⟩ := Int.eq_ofNat_of_zero_le h; exact up m
    · obtain ⟨m, hm⟩ := Int.eq_ofNat_of_zero_le (show 0 ≤ -n by omega)
      rw [show n = -(m : Int) by omega]; exact down m
theorem chN_ff (n : Int) (k : Nat) : chN n k * fac k = ff n k ∧ chN n k * (n - k) = (k + 1) * chN n (k + 1) := by
  have key : ∀ k, chN n k * fac k = ff n k → chN n k * (n - k) = (k + 1) * chN n (k + 1) := fun k h => by
    obtain ⟨q, hq⟩ := ff_dvd (k + 1) n
    have hp := fac_pos k
    have h2 : chN n k * (n - k) = (k + 1) * q := by
      apply Int.eq_of_mul_eq_mul_right (a := fac k) (by omega)
      calc chN n k * (n - k) * fac k = (chN n k * fac k) * (n - k) := by rw [Int.mul_assoc, Int.mul_comm (n - k), Int.mul_assoc]
        _ = fac (k + 1) * q := by rw [h, ← hq, ff]
        _ = (k + 1) * q * fac k := by rw [fac, Int.mul_assoc, Int.mul_assoc, Int.mul_comm (fac k)]
    rw [chN, h2, Int.mul_tdiv_cancel_left _ (by omega)]
  induction k with
  | zero => exact ⟨by simp [chN, fac, ff], key 0 (by simp [chN, fac, ff])⟩
  | succ k ih =>
    have e : chN n (k + 1) * fac (k + 1) = ff n (k + 1) := by
      rw [fac, ← Int.mul_assoc, Int.mul_comm (chN n (k + 1)), ← ih.2, ff, ← ih.1, Int.mul_assoc, Int.mul_comm (n - k), Int.mul_assoc]
    exact ⟨e, key (k + 1) e⟩
/-- Pascal's rule, at every argument. -/
theorem chN_pascal (n : Int) (k : Nat) : chN (n + 1) (k + 1) = chN n (k + 1) + chN n k := by
  have hp := fac_pos (k + 1)
  apply Int.eq_of_mul_eq_mul_right (a := fac (k + 1)) (by omega)
  rw [Int.add_mul, (chN_ff _ _).1, (chN_ff _ _).1, ff_step, fac, ← (chN_ff n k).1]
  congr 1
  rw [← Int.mul_assoc, ← Int.mul_assoc, Int.mul_comm (chN n k)]
theorem ff_low (n : Nat) (k : Nat) (h : n < k) : ff n k = 0 := by
  induction k with
  | zero => omega
  | succ k ih =>
    rw [ff]
    by_cases e : n = k
    · subst e; simp
    · rw [ih (by omega), Int.zero_mul]
theorem chN_low (n : Nat) (k : Nat) (h : n < k) : chN n k = 0 := by
  have := (chN_ff n k).1
  rw [ff_low n k h] at this
  have hp := fac_pos k
  rcases Int.mul_eq_zero.1 this with h | h <;> omega
/-- Bounds of coefficients at arguments between -300 and 300. -/
def chB : Nat → Nat
  | 0 => 1
  | k + 1 => chB k * 306 / (k + 1)
theorem chN_abs (n : Int) (hn : n.natAbs ≤ 300) (k : Nat) (hk : k ≤ 6) : (chN n k).natAbs ≤ chB k := by
  induction k with
  | zero => exact Nat.le_refl _
  | succ k ih =>
    have h1 := ih (by omega)
    have h2 : (n - k).natAbs ≤ 306 := by omega
    rw [chN, chB, Int.natAbs_tdiv, Int.natAbs_mul]
    exact Nat.div_le_div (Nat.mul_le_mul h1 h2) (by omega) (by omega)
theorem chN_bd (n : Int) (h1 : -300 ≤ n) (h2 : n ≤ 300) (k : Nat) (hk : k ≤ 6) : -1200000000000 ≤ chN n k ∧ chN n k ≤ 1200000000000 := by
  have h := chN_abs n (by omega) k hk
  have hb : chB k ≤ 1200000000000 := by
    have : k = 0 ∨ k = 1 ∨ k = 2 ∨ k = 3 ∨ k = 4 ∨ k = 5 ∨ k = 6 := by omega
    rcases this with rfl | rfl | rfl | rfl | rfl | rfl | rfl <;> decide
  omega
theorem abs_mul_le {a b : Int} {A B : Nat} (ha : a.natAbs ≤ A) (hb : b.natAbs ≤ B) : (a * b).natAbs ≤ A * B := by
  rw [Int.natAbs_mul]; exact Nat.mul_le_mul ha hb
theorem chN_mul_bd (n : Int) (h1 : -300 ≤ n) (h2 : n ≤ 300) (k : Nat) (hk : k ≤ 5) : -1000000000000000 ≤ chN n k * (n - k) ∧ chN n k * (n - k) ≤ 1000000000000000 := by
  have ⟨a, b⟩ := chN_bd n h1 h2 k (by omega)
  have h := abs_mul_le (a := chN n k) (b := n - k) (A := 1200000000000) (B := 306) (by omega) (by omega)
  omega
/-! ### Values of polynomials -/
/-- The sum of the numbers of a list times the coefficients from k on. -/
def ev (n : Int) : List Int → Nat → Int
  | [], _ => 0
  | x :: p, k => x * chN n k + ev n p (k + 1)
theorem ev_snoc (n : Int) (p : List Int) (x : Int) (k : Nat) : ev n (p ++ [x]) k = ev n p k + x * chN n (k + p.length) := by
  induction p generalizing k with
  | nil => simp [ev]
  | cons y p ih => rw [List.cons_append, ev, ih, ev, Int.add_assoc, List.length_cons, show k + 1 + p.length = k + (p.length + 1) by omega]
theorem ev_step (n : Int) (p : List Int) (k : Nat) : ev (n + 1) p (k + 1) = ev n p (k + 1) + ev n p k := by
  induction p generalizing k with
  | nil => simp [ev]
  | cons x p ih =>
    rw [ev, ev, ev, ih, chN_pascal, Int.mul_add]
    omega
/-- The value at n. -/
def evP (p : List Int) (n : Int) : Int := ev n p 0
/-- The value at the next argument is the value plus that of the differences. -/
theorem evP_step (p : List Int) (n : Int) : evP p (n + 1) = evP p n + evP p.tail n := by
  cases p with
  | nil => simp [evP, ev]
  | cons x p =>
    show ev (n + 1) (x :: p) 0 = ev n (x :: p) 0 + ev n p 0
    rw [ev, ev, ev_step]
    simp only [chN]
    omega
theorem evP_zero (x : Int) (p : List Int) : evP (x :: p) 0 = x := by
  have h : ∀ (p : List Int) (k : Nat), ev 0 p (k + 1) = 0 := fun p => by
    induction p with
    | nil => intro k; rfl
    | cons y p ih => intro k; rw [ev, ih, show chN 0 (k + 1) = 0 from chN_low 0 (k + 1) (by omega)]; simp
  show ev 0 (x :: p) 0 = x
  rw [ev, h]; simp [chN]
theorem ev_abs (n : Int) (h1 : -300 ≤ n) (h2 : n ≤ 300) (p : List Int) (M : Nat) (hp : ∀ x ∈ p, x.natAbs ≤ M) (k : Nat) (hk : k + p.length ≤ 7) : (ev n p k).natAbs ≤ p.length * (M * 1200000000000) := by
  induction p generalizing k with
  | nil => simp [ev]
  | cons x p ih =>
    have hx := hp x List.mem_cons_self
    rw [List.length_cons] at hk ⊢
    have hr := ih (fun y hy => hp y (List.mem_cons_of_mem _ hy)) (k + 1) (by omega)
    have hc := chN_bd n h1 h2 k (by omega)
    have hm := abs_mul_le (a := x) (b := chN n k) (A := M) (B := 1200000000000) hx (by omega)
    rw [ev, Nat.add_mul]
    omega
theorem evP_bd (p : List Int) (n : Int) (h1 : -300 ≤ n) (h2 : n ≤ 300) (hp : ∀ x ∈ p, -100000 ≤ x ∧ x ≤ 100000) (hl : p.length ≤ 7) : -900000000000000000 ≤ evP p n ∧ evP p n ≤ 900000000000000000 := by
  have h := ev_abs n h1 h2 p 100000 (fun x hx => by have := hp x hx; omega) 0 (by omega)
  have : p.length * (100000 * 1200000000000) ≤ 7 * (100000 * 1200000000000) := Nat.mul_le_mul_right _ hl
  unfold evP
  omega
end Go.Proofs.Ytgnoclnenhmakaa
namespace Go.Proofs.Ytgnoclnenhmakaa
set_option maxRecDepth 4000
open Go.RowKit
/-- The differences of neighbors. -/
def dif : List Int → List Int
  | [] => []
  | [_] => []
  | a :: b :: l => (b - a) :: dif (b :: l)
theorem dif_length (l : List Int) : (dif l).length = l.length - 1 := by
  induction l with
  | nil => rfl
  | cons a l ih =>
    cases l with
    | nil => rfl
    | cons b l => rw [dif, List.length_cons, ih]; simp
theorem dif_get (l : List Int) (i : Nat) (x y : Int) (hx : l[i]? = some x) (hy : l[i + 1]? = some y) : (dif l)[i]? = some (y - x) := by
  induction l generalizing i with
  | nil => simp at hx
  | cons a l ih =>
    cases l with
    | nil => simp at hy
    | cons b l =>
      cases i with
      | zero => simp at hx hy; subst hx; subst hy; rw [dif]; rfl
      | succ i => rw [dif, List.getElem?_cons_succ]; exact ih i (by simpa using hx) (by simpa using hy)
/-- The differences of neighbors as 64 bits hold them. -/
def difW (l : List Int) : List Int := (dif l).map wrap64
theorem difW_length (l : List Int) : (difW l).length = l.length - 1 := by rw [difW, List.length_map, dif_length]
theorem difW_get (l : List Int) (i : Nat) (x y : Int) (hx : l[i]? = some x) (hy : l[i + 1]? = some y) : (difW l)[i]? = some (wrap64 (y - x)) := by
  rw [difW, List.getElem?_map, dif_get l i x y hx hy]; rfl
/-- The first numbers of a list, of its differences, and so on, m of them. -/
def leadW : Nat → List Int → List Int
  | 0, _ => []
  | m + 1, l => l.headD 0 :: leadW m (difW l)
theorem leadW_length (m : Nat) (l : List Int) : (leadW m l).length = m := by
  induction m generalizing l with
  | zero => rfl
  | succ m ih => rw [leadW, List.length_cons, ih]
/-- The list after some differences. -/
def difN : Nat → List Int → List Int
  | 0, l => l
  | m + 1, l => difN m (difW l)
theorem difN_snoc (m : Nat) (l : List Int) : difN (m + 1) l = difW (difN m l) := by
  induction m generalizing l with
  | zero => rfl
  | succ m ih => rw [difN, ih]; rfl
theorem difN_length (m : Nat) (l : List Int) : (difN m l).length = l.length - m := by
  induction m generalizing l with
  | zero => rfl
  | succ m ih => rw [difN, ih, difW_length]; omega
theorem leadW_snoc (m : Nat) (l : List Int) : leadW (m + 1) l = leadW m l ++ [(difN m l).headD 0] := by
  induction m generalizing l with
  | zero => rfl
  | succ m ih => rw [leadW, ih]; rfl
theorem leadW_get (m k : Nat) (l : List Int) (hk : k < m) : (leadW m l)[k]? = some ((difN k l).headD 0) := by
  induction m generalizing k l with
  | zero => omega
  | succ m ih =>
    cases k with
    | zero => rfl
    | succ k => rw [leadW, List.getElem?_cons_succ, ih k (difW l) (by omega)]; rfl
theorem leadW_take (m : Nat) (l : List Int) (c : Nat) (hc : m ≤ c) (hl : m ≤ l.length) : leadW m (l.take c) = leadW m l := by
  have hd : ∀ (l : List Int) (c : Nat), dif (l.take (c + 1)) = (dif l).take c := fun l => by
    induction l with
    | nil => intro c; simp [dif]
    | cons a l ih =>
      intro c
      cases l with
      | nil => cases c <;> simp [dif]
      | cons b l =>
        cases c with
        | zero => simp [dif]
        | succ c =>
          have := ih c
          rw [List.take_succ_cons] at this
          rw [List.take_succ_cons, List.take_succ_cons, dif, dif, this, List.take_succ_cons]
  induction m generalizing l c with
  | zero => rfl
  | succ m ih =>
    obtain ⟨c, rfl⟩ : ∃ d, c = d + 1 := ⟨c - 1, by omega⟩
    rw [leadW, leadW, difW, hd, List.map_take]
    have := ih (difW l) c (by omega) (by rw [difW_length]; omega)
    rw [show (List.map wrap64 (dif l)) = difW l from rfl, this]
    cases l with
    | nil => simp at hl
    | cons a l => rfl
/-! ### Values of a polynomial -/
/-- The values from n on, m of them. -/
def vals (p : List Int) (n : Int) (m : Nat) : List Int := (List.range m).map fun (i : Nat) => evP p (n + i)
theorem vals_length (p : List Int) (n : Int) (m : Nat) : (vals p n m).length = m := by simp [vals]
theorem vals_get (p : List Int) (n : Int) (m i : Nat) (h : i < m) : (vals p n m)[i]? = some (evP p (n + i)) := by
  simp [vals, h]
theorem vals_snoc (p : List Int) (n : Int) (m : Nat) : vals p n (m + 1) = vals p n m ++ [evP p (n + m)] := by
  simp [vals, List.range_succ]
theorem list_ext {α : Type} {l m : List α} (hl : l.length = m.length) (h : ∀ (i : Nat) (x y : α), l[i]? = some x → m[i]? = some y → x = y) : l = m := by
  apply List.ext_getElem? 
  intro i
  by_cases hi : i < l.length
  · rw [List.getElem?_eq_getElem hi, List.getElem?_eq_getElem (by omega)]
    rw [h i _ _ (List.getElem?_eq_getElem hi) (List.getElem?_eq_getElem (by omega))]
  · rw [List.getElem?_eq_none (by omega), List.getElem?_eq_none (by omega)]
theorem vals_dif (p : List Int) (n : Int) (m : Nat) : dif (vals p n (m + 1)) = vals p.tail n m := by
  refine list_ext (by rw [dif_length, vals_length, vals_length]; omega) fun i x y hx hy => ?_
  have hi : i < m := by
    have := (List.getElem?_eq_some_iff.1 hy).1
    rwa [vals_length] at this
  rw [vals_get _ _ _ _ hi] at hy
  rw [dif_get _ i _ _ (vals_get p n (m + 1) i (by omega)) (vals_get p n (m + 1) (i + 1) (by omega))] at hx
  injection hx with hx
  injection hy with hy
  rw [← hx, ← hy, show n + ((i + 1 : Nat) : Int) = n + i + 1 by omega, evP_step]
  omega
theorem wrap64_id (x : Int) (h1 : -9223372036854775808 ≤ x) (h2 : x ≤ 9223372036854775807) : wrap64 x = x := IntWalk.wrap64_in x ⟨h1, h2⟩
/-- All numbers lie within the bounds of a polynomial's differences. -/
def Small (p : List Int) : Prop := p.length ≤ 7 ∧ ∀ x ∈ p, -100000 ≤ x ∧ x ≤ 100000
theorem Small.tail {p : List Int} (h : Small p) : Small p.tail := ⟨by rw [List.length_tail]; have := h.1; omega, fun x hx => h.2 x (List.mem_of_mem_tail hx)⟩
theorem Small.bd {p : List Int} (h : Small p) (n : Int) (h1 : -300 ≤ n) (h2 : n ≤ 300) : -900000000000000000 ≤ evP p n ∧ evP p n ≤ 900000000000000000 := evP_bd p n h1 h2 h.2 h.1
theorem Small.drop {p : List Int} (h : Small p) (k : Nat) : Small (p.drop k) := ⟨by rw [List.length_drop]; have := h.1; omega, fun x hx => h.2 x (List.mem_of_mem_drop hx)⟩
theorem vals_difW (p : List Int) (hp : Small p) (n : Int) (m : Nat) (h1 : -300 ≤ n) (h2 : n + m ≤ 300) : difW (vals p n (m + 1)) = vals p.tail n m := by
  rw [difW, vals_dif]
  refine (List.map_congr_left fun x hx => ?_).trans (List.map_id _)
  obtain ⟨i, hi, rfl⟩ := List.mem_map.1 hx
  have hi := List.mem_range.1 hi
  have := hp.tail.bd (n + i) (by omega) (by omega)
  exact wrap64_id _ (by omega) (by omega)
/-- The differences of a polynomial at an argument. -/
def shiftL (p : List Int) (n : Int) (m : Nat) : List Int := (List.range m).map fun (k : Nat) => evP (p.drop k) n
theorem shiftL_length (p : List Int) (n : Int) (m : Nat) : (shiftL p n m).length = m := by simp [shiftL]
theorem shiftL_get (p : List Int) (n : Int) (m k : Nat) (h : k < m) : (shiftL p n m)[k]? = some (evP (p.drop k) n) := by simp [shiftL, h]
theorem shiftL_snoc (p : List Int) (n : Int) (m : Nat) : shiftL p n (m + 1) = shiftL p n m ++ [evP (p.drop m) n] := by simp [shiftL, List.range_succ]
theorem lead_vals (p : List Int) (hp : Small p) (n : Int) (m : Nat) (h1 : -300 ≤ n) (h2 : n + m ≤ 300) : leadW m (vals p n m) = shiftL p n m := by
  induction m generalizing p with
  | zero => rfl
  | succ m ih =>
    rw [leadW, vals_difW p hp n m h1 (by omega), ih p.tail hp.tail (by omega)]
    have e : (vals p n (m + 1)).headD 0 = evP p n := by
      rw [List.headD_eq_head?_getD, List.head?_eq_getElem?, vals_get p n (m + 1) 0 (by omega)]
      simp
    rw [e]
    unfold shiftL
    rw [List.range_succ_eq_map, List.map_cons, List.map_map]
    simp [Function.comp_def]
end Go.Proofs.Ytgnoclnenhmakaa
