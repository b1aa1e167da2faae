/-
  Polynomials given by their differences, and differences of lists, in plain mathematics. No conditions but bounds of numbers.
-/
import Derived.IntWalk
namespace Go.Proofs.Ytliakbgigkajnaa
set_option maxRecDepth 4000
open Go.RowKit
/-! ### Binomial coefficients -/
/-- The product of n, n - 1 and so on, k of them. -/
def ff (n : Int) : Nat → Int
  | 0 => 1
  | k + 1 => ff n k * (n - k)
/-- The product of 1 to k. -/
def fac : Nat → Int
  | 0 => 1
  | k + 1 => (k + 1) * fac k
/-- A binomial coefficient, as both programs reckon it. -/
def chN (n : Int) : Nat → Int
  | 0 => 1
  | k + 1 => (chN n k * (n - k)).tdiv (k + 1)
theorem fac_pos (k : Nat) : 0 < fac k := by
  induction k with
  | zero => decide
  | succ k ih => rw [fac]; exact Int.mul_pos (by omega) ih
theorem ff_zero (k : Nat) : ff 0 (k + 1) = 0 := by
  induction k with
  | zero => decide
  | succ k ih => rw [ff, ih, Int.zero_mul]
theorem ff_head (n : Int) (k : Nat) : ff (n + 1) (k + 1) = (n + 1) * ff n k := by
  induction k with
  | zero => simp [ff]
  | succ k ih =>
    rw [ff, ih, ff, Int.mul_assoc]
    congr 2
    omega
theorem ff_step (n : Int) (k : Nat) : ff (n + 1) (k + 1) = ff n (k + 1) + (k + 1) * ff n k := by
  rw [ff_head, ff, Int.mul_comm (ff n k), ← Int.add_mul]
  congr 1
  omega
theorem ff_dvd (k : Nat) : ∀ n : Int, fac k ∣ ff n k := by
  induction k with
  | zero => intro n; exact ⟨1, by simp [ff, fac]⟩
  | succ k ih =>
    have hstep : ∀ n : Int, fac (k + 1) ∣ ff (n + 1) (k + 1) ↔ fac (k + 1) ∣ ff n (k + 1) := fun n => by
      rw [ff_step]
      have hd : fac (k + 1) ∣ (k + 1) * ff n k := by rw [fac]; exact Int.mul_dvd_mul_left _ (ih n)
      exact Int.dvd_add_left hd
    have up : ∀ m : Nat, fac (k + 1) ∣ ff (m : Int) (k + 1) := fun m => by
      induction m with
      | zero => rw [show ((0 : Nat) : Int) = 0 from rfl, ff_zero]; exact Int.dvd_zero _
      | succ m ihm => exact (hstep m).2 ihm
    have down : ∀ m : Nat, fac (k + 1) ∣ ff (-(m : Int)) (k + 1) := fun m => by
      induction m with
      | zero => exact up 0
      | succ m ihm =>
        have := hstep (-((m + 1 : Nat) : Int))
        rw [show -((m + 1 : Nat) : Int) + 1 = -(m : Int) by omega] at this
        exact this.1 ihm
    intro n
    rcases Int.le_total 0 n with h | h
    · obtain ⟨m, rfl⟩ := Int.eq_ofNat_of_zero_le h; exact up m
    · obtain ⟨m, hm⟩ := Int.eq_ofNat_of_zero_le (show 0 ≤ -n by omega)
      rw [show n = -(m : Int) by omega]; exact down m
theorem chN_ff (n : Int) (k : Nat) : chN n k * fac k = ff n k ∧ chN n k * (n - k) = (k + 1) * chN n (k + 1) := by
  have key : ∀ k, chN n k * fac k = ff n k → chN n k * (n - k) = (k + 1) * chN n (k + 1) := fun k h => by
    obtain ⟨q, hq⟩ := ff_dvd (k + 1) n
    have hp := fac_pos k
    have h2 : chN n k * (n - k) = (k + 1) * q := by
      apply Int.eq_of_mul_eq_mul_right (a := fac k) (by omega)
      calc chN n k * (n - k) * fac k = (chN n k * fac k) * (n - k) := by rw [Int.mul_assoc, Int.mul_comm (n - k), Int.mul_assoc]
        _ = fac (k + 1) * q := by rw [h, ← hq, ff]
        _ = (k + 1) * q * fac k := by rw [fac, Int.mul_assoc, Int.mul_assoc, Int.mul_comm (fac k)]
    rw [chN, h2, Int.mul_tdiv_cancel_left _ (by omega)]
  induction k with
  | zero => exact ⟨by simp [chN, fac, ff], key 0 (by simp [chN, fac, ff])⟩
  | succ k ih =>
    have e : chN n (k + 1) * fac (k + 1) = ff n (k + 1) := by
      rw [fac, ← Int.mul_assoc, Int.mul_comm (chN n (k + 1)), ← ih.2, ff, ← ih.1, Int.mul_assoc, Int.mul_comm (n - k), Int.mul_assoc]
    exact ⟨e, key (k + 1) e⟩
/-- Pascal's rule, at every argument. -/
theorem chN_pascal (n : Int) (k : Nat) : chN (n + 1) (k + 1) = chN n (k + 1) + chN n k := by
  have hp := fac_pos (k + 1)
  apply Int.eq_of_mul_eq_mul_right (a := fac (k + 1)) (by omega)
  rw [Int.add_mul, (chN_ff _ _).1, (chN_ff _ _).1, ff_step, fac, ← (chN_ff n k).1]
  congr 1
  rw [← Int.mul_assoc, ← Int.mul_assoc, Int.mul_comm (chN n k)]
theorem ff_low (n : Nat) (k : Nat) (h : n < k) : ff n k = 0 := by
  induction k with
  | zero => omega
  | succ k ih =>
    rw [ff]
    by_cases e : n = k
    · subst e; simp
    · rw [ih (by omega), Int.zero_mul]
theorem chN_low (n : Nat) (k : Nat) (h : n < k) : chN n k = 0 := by
  have := (chN_ff n k).1
  rw [ff_low n k h] at this
  have hp := fac_pos k
  rcases Int.mul_eq_zero.1 this with h | h <;> omega
/-- Bounds of coefficients at arguments between -300 and 300. -/
def chB : Nat → Nat
  | 0 => 1
  | k + 1 => chB k * 306 / (k + 1)
theorem chN_abs (n : Int) (hn : n.natAbs ≤ 300) (k : Nat) (hk : k ≤ 6) : (chN n k).natAbs ≤ chB k := by
  induction k with
  | zero => exact Nat.le_refl _
  | succ k ih =>
    have h1 := ih (by omega)
    have h2 : (n - k).natAbs ≤ 306 := by omega
    rw [chN, chB, Int.natAbs_tdiv, Int.natAbs_mul]
    exact Nat.div_le_div (Nat.mul_le_mul h1 h2) (by omega) (by omega)
theorem chN_bd (n : Int) (h1 : -300 ≤ n) (h2 : n ≤ 300) (k : Nat) (hk : k ≤ 6) : -1200000000000 ≤ chN n k ∧ chN n k ≤ 1200000000000 := by
  have h := chN_abs n (by omega) k hk
  have hb : chB k ≤ 1200000000000 := by
    have : k = 0 ∨ k = 1 ∨ k = 2 ∨ k = 3 ∨ k = 4 ∨ k = 5 ∨ k = 6 := by omega
    rcases this with rfl | rfl | rfl | rfl | rfl | rfl | rfl <;> decide
  omega
theorem abs_mul_le {a b : Int} {A B : Nat} (ha : a.natAbs ≤ A) (hb : b.natAbs ≤ B) : (a * b).natAbs ≤ A * B := by
  rw [Int.natAbs_mul]; exact Nat.mul_le_mul ha hb
theorem chN_mul_bd (n : Int) (h1 : -300 ≤ n) (h2 : n ≤ 300) (k : Nat) (hk : k ≤ 5) : -1000000000000000 ≤ chN n k * (n - k) ∧ chN n k * (n - k) ≤ 1000000000000000 := by
  have ⟨a, b⟩ := chN_bd n h1 h2 k (by omega)
  have h := abs_mul_le (a := chN n k) (b := n - k) (A := 1200000000000) (B := 306) (by omega) (by omega)
  omega
/-! ### Values of polynomials -/
/-- The sum of the numbers of a list times the coefficients from k on. -/
def ev (n : Int) : List Int → Nat → Int
  | [], _ => 0
  | x :: p, k => x * chN n k + ev n p (k + 1)
theorem ev_snoc (n : Int) (p : List Int) (x : Int) (k : Nat) : ev n (p ++ [x]) k = ev n p k + x * chN n (k + p.length) := by
  induction p generalizing k with
  | nil => simp [ev]
  | cons y p ih => rw [List.cons_append, ev, ih, ev, Int.add_assoc, List.length_cons, show k + 1 + p.length = k + (p.length + 1) by omega]
theorem ev_step (n : Int) (p : List Int) (k : Nat) : ev (n + 1) p (k + 1) = ev n p (k + 1) + ev n p k := by
  induction p generalizing k with
  | nil => simp [ev]
  | cons x p ih =>
    rw [ev, ev, ev, ih, chN_pascal, Int.mul_add]
    omega
/-- The value at n. -/
def evP (p : List Int) (n : Int) : Int := ev n p 0
/-- The value at the next argument is the value plus that of the differences. -/
theorem evP_step (p : List Int) (n : Int) : evP p (n + 1) = evP p n + evP p.tail n := by
  cases p with
  | nil => simp [evP, ev]
  | cons x p =>
    show ev (n + 1) (x :: p) 0 = ev n (x :: p) 0 + ev n p 0
    rw [ev, ev, ev_step]
    simp only [chN]
    omega
theorem evP_zero (x : Int) (p : List Int) : evP (x :: p) 0 = x := by
  have h : ∀ (p : List Int) (k : Nat), ev 0 p (k + 1) = 0 := fun p => by
    induction p with
    | nil => intro k; rfl
    | cons y p ih => intro k; rw [ev, ih, show chN 0 (k + 1) = 0 from chN_low 0 (k + 1) (by omega)]; simp
  show ev 0 (x :: p) 0 = x
  rw [ev, h]; simp [chN]
theorem ev_abs (n : Int) (h1 : -300 ≤ n) (h2 : n ≤ 300) (p : List Int) (M : Nat) (hp : ∀ x ∈ p, x.natAbs ≤ M) (k : Nat) (hk : k + p.length ≤ 7) : (ev n p k).natAbs ≤ p.length * (M * 1200000000000) := by
  induction p generalizing k with
  | nil => simp [ev]
  | cons x p ih =>
    have hx := hp x List.mem_cons_self
    rw [List.length_cons] at hk ⊢
    have hr := ih (fun y hy => hp y (List.mem_cons_of_mem _ hy)) (k + 1) (by omega)
    have hc := chN_bd n h1 h2 k (by omega)
    have hm := abs_mul_le (a := x) (b := chN n k) (A := M) (B := 1200000000000) hx (by omega)
    rw [ev, Nat.add_mul]
    omega
theorem evP_bd (p : List Int) (n : Int) (h1 : -300 ≤ n) (h2 : n ≤ 300) (hp : ∀ x ∈ p, -100000 ≤ x ∧ x ≤ 100000) (hl : p.length ≤ 7) : -900000000000000000 ≤ evP p n ∧ evP p n ≤ 900000000000000000 := by
  have h := ev_abs n h1 h2 p 100000 (fun x hx => by have := hp x hx; omega) 0 (by omega)
  have : p.length * (100000 * 1200000000000) ≤ 7 * (100000 * 1200000000000) := Nat.mul_le_mul_right _ hl
  unfold evP
  omega
end Go.Proofs.Ytliakbgigkajnaa
