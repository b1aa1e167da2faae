/-
  Mathematics of rounding: the whole number below a quotient, the nearest one, and what is left. No conditions.
-/
import Derived.Test.YtcinhmfjnjecdaaBase
import Derived.Test.YtcinhmfjnjecdaaMath
namespace Go.Proofs.Ytcinhmfjnjecdaa
set_option maxRecDepth 4000
open Go.RowKit
/-- The way of rounding n by the unit u: 0 down, 1 to the nearest and away from 0, else to the nearest and even. -/
def rndI (n u way : Int) : Int :=
  if way = 0 then n / u
  else if way = 1 then (if u < 2 * (n % u) ∨ 2 * (n % u) = u ∧ 0 < n then n / u + 1 else n / u)
  else (if u < 2 * (n % u) ∨ 2 * (n % u) = u ∧ n / u % 2 ≠ 0 then n / u + 1 else n / u)
/-- Digits to be left out, and a way of rounding. -/
def wayOk (digits way : Int) : Bool := decide ((0 : Int) ≤ digits ∧ digits ≤ 6) && decide ((0 : Int) ≤ way ∧ way ≤ 2)
/-- The units. -/
def IsUnit (u : Int) : Prop := u = 1 ∨ u = 10 ∨ u = 100 ∨ u = 1000 ∨ u = 10000 ∨ u = 100000 ∨ u = 1000000
theorem unit_of (d : Int) (h0 : 0 ≤ d) (h1 : d ≤ 6) : IsUnit (tenP d.toNat) := by
  unfold IsUnit
  obtain ⟨k, rfl⟩ := Int.eq_ofNat_of_zero_le h0
  rw [Int.toNat_natCast]
  have hk : k ≤ 6 := by omega
  match k, hk with
  | 0, _ => left; rfl
  | 1, _ => right; left; rfl
  | 2, _ => right; right; left; rfl
  | 3, _ => right; right; right; left; rfl
  | 4, _ => right; right; right; right; left; rfl
  | 5, _ => right; right; right; right; right; left; rfl
  | 6, _ => right; right; right; right; right; right; rfl
theorem IsUnit.bd {u : Int} (h : IsUnit u) : 1 ≤ u ∧ u ≤ 1000000 := by unfold IsUnit at h; omega
/-- Go's quotient and remainder, of a number that may be negative. -/
theorem divT (n u : Int) (hu : 0 < u) : (n.tmod u < 0 → n / u = n.tdiv u - 1 ∧ n % u = n.tmod u + u) ∧ (0 ≤ n.tmod u → n / u = n.tdiv u ∧ n % u = n.tmod u) := by
  have h1 := Int.mul_tdiv_add_tmod n u
  have hlt := Int.tmod_lt_of_pos n hu
  have hgt := Int.lt_tmod_of_pos n hu
  have uniq : ∀ q r : Int, u * q + r = n → 0 ≤ r → r < u → n / u = q ∧ n % u = r := by
    intro q r e h0 h2
    exact (Int.ediv_emod_unique (q := q) (r := r) hu).2 ⟨(Int.add_comm _ _).trans e, h0, h2⟩
  refine ⟨fun h => uniq _ _ ?_ (by omega) (by omega), fun h => uniq _ _ h1 h hlt⟩
  rw [Int.mul_sub, Int.mul_one]; omega
theorem div_bd (n u : Int) (hu : 0 < u) (h1 : -1000000000 ≤ n) (h2 : n ≤ 1000000000) : -1000000000 ≤ n / u ∧ n / u ≤ 1000000000 := by
  constructor
  · have := Int.ediv_le_ediv hu (show (-1000000000) * u ≤ n by
      have : (1000000000 : Int) * 1 ≤ 1000000000 * u := Int.mul_le_mul_of_nonneg_left (by omega) (by omega)
      rw [Int.neg_mul]; omega)
    rwa [Int.mul_ediv_cancel _ (by omega)] at this
  · have := Int.ediv_le_ediv hu (show n ≤ 1000000000 * u by
      have : (1000000000 : Int) * 1 ≤ 1000000000 * u := Int.mul_le_mul_of_nonneg_left (by omega) (by omega)
      omega)
    rwa [Int.mul_ediv_cancel _ (by omega)] at this
theorem mod_bd (n u : Int) (hu : 0 < u) : 0 ≤ n % u ∧ n % u < u := ⟨Int.emod_nonneg _ (by omega), Int.emod_lt_of_pos _ hu⟩
theorem rnd_near (n u way : Int) : rndI n u way = n / u ∨ rndI n u way = n / u + 1 := by
  unfold rndI
  split
  · left; rfl
  · split <;> split <;> simp
theorem tmod2 (q : Int) : q.tmod 2 = 0 ↔ q % 2 = 0 := by rw [← Int.dvd_iff_tmod_eq_zero, ← Int.dvd_iff_emod_eq_zero]
theorem tmod_bd2 (q : Int) : -2 < q.tmod 2 ∧ q.tmod 2 < 2 := ⟨Int.lt_tmod_of_pos q (by omega), Int.tmod_lt_of_pos q (by omega)⟩
/-- Bounds of a rounded number times its unit. -/
theorem rnd_bounds (n u way : Int) (hu : IsUnit u) : (way = 0 → 0 ≤ n - rndI n u way * u ∧ n - rndI n u way * u < u) ∧ (way ≠ 0 → 2 * (n - rndI n u way * u) ≤ u ∧ -u ≤ 2 * (n - rndI n u way * u)) := by
  unfold rndI
  refine ⟨fun h => ?_, fun h => ?_⟩
  · rw [if_pos h]; unfold IsUnit at hu; rcases hu with rfl|rfl|rfl|rfl|rfl|rfl|rfl <;> omega
  · rw [if_neg h]; unfold IsUnit at hu; rcases hu with rfl|rfl|rfl|rfl|rfl|rfl|rfl <;> split <;> split <;> omega
theorem rnd_mono (n k u way : Int) (hu : IsUnit u) (h : n ≤ k) : rndI n u way ≤ rndI k u way := by
  unfold rndI
  unfold IsUnit at hu
  rcases hu with rfl|rfl|rfl|rfl|rfl|rfl|rfl <;> (repeat' split) <;> omega
theorem rnd_exact (n u way : Int) (hu : IsUnit u) (h : n % u = 0) : rndI n u way * u = n := by
  unfold rndI
  unfold IsUnit at hu
  rcases hu with rfl|rfl|rfl|rfl|rfl|rfl|rfl <;> (repeat' split) <;> omega
theorem rnd_opp (n u way : Int) (hu : IsUnit u) : (way = 0 → rndI (-n) u way = -rndI n u way - (if n % u ≠ 0 then 1 else 0)) ∧ (way ≠ 0 → rndI (-n) u way = -rndI n u way) := by
  unfold rndI
  unfold IsUnit at hu
  refine ⟨fun h => ?_, fun h => ?_⟩
  · rw [if_pos h, if_pos h]; rcases hu with rfl|rfl|rfl|rfl|rfl|rfl|rfl <;> split <;> omega
  · rw [if_neg h, if_neg h]; rcases hu with rfl|rfl|rfl|rfl|rfl|rfl|rfl <;> (repeat' split) <;> omega
/-- Of two equally near numbers it is the even one, or the one farther from 0. -/
theorem rnd_half (n u way : Int) (hu : IsUnit u) (h0 : way ≠ 0) (h : 2 * (n - rndI n u way * u) = u ∨ 2 * (n - rndI n u way * u) = -u) : (way ≠ 1 → rndI n u way % 2 = 0) ∧ (way = 1 → 0 < n ∧ 2 * (n - rndI n u way * u) = -u ∨ n < 0 ∧ 2 * (n - rndI n u way * u) = u) := by
  unfold rndI at h ⊢
  unfold IsUnit at hu
  rw [if_neg h0] at h ⊢
  refine ⟨fun h1 => ?_, fun h1 => ?_⟩
  · rw [if_neg h1] at h ⊢; rcases hu with rfl|rfl|rfl|rfl|rfl|rfl|rfl <;> split at h <;> (try split) <;> omega
  · rw [if_pos h1] at h ⊢; rcases hu with rfl|rfl|rfl|rfl|rfl|rfl|rfl <;> split at h <;> (try split) <;> omega
end Go.Proofs.Ytcinhmfjnjecdaa
