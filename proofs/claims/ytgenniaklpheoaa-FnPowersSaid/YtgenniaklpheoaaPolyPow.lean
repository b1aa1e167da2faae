/-
  The coefficients of powers of a polynomial that is given by its differences, as both programs reckon them. Condition: at most 7 differences.
-/
import Derived.Test.YtgenniaklpheoaaPolyNewton
namespace Go.Proofs.Ytgenniaklpheoaa
open Go.RowKit
/-- The coefficients of powers of a sum, times n - root, plus a number; the highest one is lost. -/
def mulAdd (root number : Int) : List Int → List Int
  | [] => []
  | x :: l => (number - root * x) :: List.zipWith (fun a b => a - root * b) (x :: l) l
/-- 720 divided by the product of 1 to k. -/
def com (k : Nat) : Int := (720 : Int).tdiv (fac k)
/-- Newton's form from its inside out: the numbers of the list are those from k on. -/
def powI (m : Nat) : List Int → Nat → List Int
  | [], _ => List.replicate m 0
  | x :: p, k => mulAdd k (com k * x) (powI m p (k + 1))
/-- 720 times the k-th binomial coefficient, as coefficients of powers. -/
def stair : Nat → List Int
  | 0 => [720]
  | 1 => [0, 720]
  | 2 => [0, -360, 360]
  | 3 => [0, 240, -360, 120]
  | 4 => [0, -180, 330, -180, 30]
  | 5 => [0, 144, -300, 210, -60, 6]
  | 6 => [0, -120, 274, -225, 85, -15, 1]
  | _ => []
/-- A list plus a multiple of another one, which is not longer. -/
def addMul (x : Int) : List Int → List Int → List Int
  | o, [] => o
  | [], _ => []
  | a :: o, c :: s => (a + x * c) :: addMul x o s
/-- The sum of multiples of stairs, from k on. -/
def powS (o : List Int) : List Int → Nat → List Int
  | [], _ => o
  | x :: p, k => powS (addMul x o (stair k)) p (k + 1)
/-- The coefficients of powers. -/
def powL (p : List Int) : List Int := powS (List.replicate p.length 0) p 0
theorem addMul_length (x : Int) (o s : List Int) : (addMul x o s).length = o.length := by
  induction o generalizing s with
  | nil => cases s <;> rfl
  | cons a o ih => cases s with
    | nil => rfl
    | cons c s => rw [addMul, List.length_cons, ih, List.length_cons]
theorem powS_length (o p : List Int) (k : Nat) : (powS o p k).length = o.length := by
  induction p generalizing o k with
  | nil => rfl
  | cons x p ih => rw [powS, ih, addMul_length]
theorem powL_length (p : List Int) : (powL p).length = p.length := by rw [powL, powS_length, List.length_replicate]
theorem list7 (p : List Int) (h : p.length ≤ 7) : p = [] ∨ (∃ a, p = [a]) ∨ (∃ a b, p = [a, b]) ∨ (∃ a b c, p = [a, b, c]) ∨ (∃ a b c d, p = [a, b, c, d]) ∨ (∃ a b c d e, p = [a, b, c, d, e]) ∨ (∃ a b c d e f, p = [a, b, c, d, e, f]) ∨ (∃ a b c d e f g, p = [a, b, c, d, e, f, g]) := by
  rcases p with _ | ⟨a, _ | ⟨b, _ | ⟨c, _ | ⟨d, _ | ⟨e, _ | ⟨f, _ | ⟨g, _ | ⟨i, p⟩⟩⟩⟩⟩⟩⟩⟩ <;> simp at h ⊢
theorem com_vals : com 0 = 720 ∧ com 1 = 720 ∧ com 2 = 360 ∧ com 3 = 120 ∧ com 4 = 30 ∧ com 5 = 6 ∧ com 6 = 1 := by decide
theorem powI_powL (p : List Int) (h : p.length ≤ 7) : powI p.length p 0 = powL p := by
  obtain ⟨c0, c1, c2, c3, c4, c5, c6⟩ := com_vals
  rcases list7 p h with rfl | ⟨a, rfl⟩ | ⟨a, b, rfl⟩ | ⟨a, b, c, rfl⟩ | ⟨a, b, c, d, rfl⟩ | ⟨a, b, c, d, e, rfl⟩ | ⟨a, b, c, d, e, f, rfl⟩ | ⟨a, b, c, d, e, f, g, rfl⟩
  all_goals
    simp [powI, powL, powS, mulAdd, addMul, stair, c0, c1, c2, c3, c4, c5, c6, List.replicate]
  all_goals (try omega)
theorem pw_addMul (n x : Int) (o s : List Int) (h : s.length ≤ o.length) : pw n (addMul x o s) = pw n o + x * pw n s := by
  induction o generalizing s with
  | nil =>
    obtain rfl : s = [] := List.eq_nil_of_length_eq_zero (by simpa using h)
    simp [addMul, pw]
  | cons a o ih =>
    cases s with
    | nil => simp [addMul, pw]
    | cons c s =>
      rw [addMul, pw, pw, pw, ih s (by simpa using h), Int.add_mul, Int.mul_add, Int.mul_assoc]
      omega
theorem pw_stair (n : Int) (k : Nat) (hk : k ≤ 6) : pw n (stair k) = 720 * chN n k := by
  have h := (chN_ff n k).1
  have : k = 0 ∨ k = 1 ∨ k = 2 ∨ k = 3 ∨ k = 4 ∨ k = 5 ∨ k = 6 := by omega
  rcases this with rfl | rfl | rfl | rfl | rfl | rfl | rfl
  all_goals
    simp only [fac, ff, stair, pw] at h ⊢
    grind
theorem stair_length (k : Nat) (hk : k ≤ 6) : (stair k).length = k + 1 := by
  have : k = 0 ∨ k = 1 ∨ k = 2 ∨ k = 3 ∨ k = 4 ∨ k = 5 ∨ k = 6 := by omega
  rcases this with rfl | rfl | rfl | rfl | rfl | rfl | rfl <;> rfl
theorem pw_powS (n : Int) (o p : List Int) (k : Nat) (hk : k + p.length ≤ 7) (hl : k + p.length ≤ o.length) : pw n (powS o p k) = pw n o + 720 * ev n p k := by
  induction p generalizing o k with
  | nil => simp [powS, ev]
  | cons x p ih =>
    rw [List.length_cons] at hk hl
    rw [powS, ih _ (k + 1) (by omega) (by rw [addMul_length]; omega), pw_addMul _ _ _ _ (by rw [stair_length k (by omega)]; omega), pw_stair n k (by omega), ev, Int.mul_add]
    rw [← Int.mul_assoc x, Int.mul_comm x 720, Int.mul_assoc]
    omega
theorem pw_zeros (n : Int) (m : Nat) : pw n (List.replicate m 0) = 0 := by
  induction m with
  | zero => rfl
  | succ m ih => rw [List.replicate_succ, pw, ih]; simp
/-- The powers give 720 times the value. -/
theorem pw_powL (p : List Int) (h : p.length ≤ 7) (n : Int) : pw n (powL p) = 720 * evP p n := by
  rw [powL, pw_powS n _ p 0 (by omega) (by simp), pw_zeros, evP]; omega
theorem evP_zeros (m : Nat) (n : Int) : evP (List.replicate m 0) n = 0 := by
  have : ∀ k, ev n (List.replicate m 0) k = 0 := by
    induction m with
    | zero => intro k; rfl
    | succ m ih => intro k; rw [List.replicate_succ, ev, ih]; simp
  exact this 0
theorem newt_zeros (L : Nat) (f : Int → Int) (h : ∀ n : Nat, f n = 0) : newt L f = List.replicate L 0 := by
  induction L generalizing f with
  | zero => rfl
  | succ L ih =>
    rw [newt, List.replicate_succ, show f 0 = 0 from h 0, ih (Dl f) fun n => ?_]
    simp only [Dl]
    rw [show (n : Int) + 1 = ((n + 1 : Nat) : Int) by omega, h, h]; rfl
theorem pw_zero_all (e : List Int) (h : ∀ n, pw n e = 0) : ∀ x ∈ e, x = 0 := by
  induction e with
  | nil => intro x hx; simp at hx
  | cons x e ih =>
    have hx : x = 0 := by have := h 0; rw [pw] at this; omega
    have h1 : ∀ n, n ≠ 0 → pw n e = 0 := fun n hn => by
      have := h n
      rw [pw, hx, Int.add_zero] at this
      rcases Int.mul_eq_zero.1 this with h | h
      · exact h
      · exact absurd h hn
    have h0 : pw 0 e = 0 := by
      have ht := top_shift (top_pw e) 1
      have hn := newt_zeros e.length (fun n => pw (n + 1) e) fun n => h1 _ (by omega)
      have := newt_eq e.length _ ht (-1)
      rw [hn, evP_zeros] at this
      exact this.symm
    intro y hy
    rcases List.mem_cons.1 hy with rfl | hy
    · exact hx
    · refine ih (fun n => ?_) y hy
      by_cases hn : n = 0
      · rw [hn]; exact h0
      · exact h1 n hn
/-- Coefficients of powers with the same sums are the same. -/
theorem pw_inj {c d : List Int} (hl : c.length = d.length) (h : ∀ n, pw n c = pw n d) : c = d := by
  have hs : ∀ n, pw n (addMul (-1) c d) = 0 := fun n => by rw [pw_addMul n _ _ _ (by omega), h n]; omega
  have hz := pw_zero_all _ hs
  clear h hs
  induction c generalizing d with
  | nil => exact (List.eq_nil_of_length_eq_zero (by simpa using hl.symm)).symm
  | cons a c ih =>
    cases d with
    | nil => simp at hl
    | cons b d =>
      rw [addMul] at hz
      have h1 := hz _ List.mem_cons_self
      rw [ih (by simpa using hl) fun x hx => hz x (List.mem_cons_of_mem _ hx), show a = b by omega]
theorem pw_scale (n k : Int) (c : List Int) : pw n (c.map (k * ·)) = k * pw n c := by
  induction c with
  | nil => simp [pw]
  | cons x c ih => rw [List.map_cons, pw, pw, ih, Int.mul_add, Int.mul_assoc]
#print axioms pw_inj
#print axioms pw_powL
end Go.Proofs.Ytgenniaklpheoaa
