/-
  Rounding: the parts of the program on single numbers. Conditions: a unit, and a number of a table.
-/
import Derived.Test.YtcinhmfjnjecdaaRndM
import Derived.Test.YtcinhmfjnjecdaaCols
import Derived.Test.YtcinhmfjnjecdaaPolyV
import Derived.RegionTactic
namespace Go.Proofs.Ytcinhmfjnjecdaa
set_option maxRecDepth 4000
open Go.RowKit
theorem between_any (n a b : Int) (r : Bool) (h : decide (a ≤ n ∧ n ≤ b) = r) (w : World) : Calls Try.prog 32 #[.int .i64 n, .int .i64 a, .int .i64 b] w fun e w' => e = .returned (.bool r) ∧ w = w' := by
  subst h
  by_cases h1 : a ≤ n
  · by_cases h2 : n ≤ b
    · have e : decide (a ≤ n ∧ n ≤ b) = true := decide_eq_true ⟨h1, h2⟩
      rw [e]
      go_enter Try.func32, Try.ntmps32
      go_wp2
      go_ret
      exact ⟨rfl, rfl⟩
    · have e : decide (a ≤ n ∧ n ≤ b) = false := decide_eq_false (fun h => h2 h.2)
      have e2 : decide (n ≤ b) = false := decide_eq_false h2
      rw [e]
      clear e
      go_enter Try.func32, Try.ntmps32
      go_wp2
      go_ret
      exact ⟨rfl, rfl⟩
  · have e : decide (a ≤ n ∧ n ≤ b) = false := decide_eq_false (fun h => h1 h.1)
    have e2 : decide (a ≤ n) = false := decide_eq_false h1
    rw [e]
    clear e
    go_enter Try.func32, Try.ntmps32
    go_wp2
    go_ret
    exact ⟨rfl, rfl⟩
/-- A call that answers v, writes nothing and may draw. -/
def Drw (v : Value) (w : World) (e : Ending) (w' : World) : Prop := e = .returned v ∧ ∃ q, w' = w.drewN q
theorem Drw.gives {v : Value} {w w' : World} {e : Ending} (h : Drw v w e w') : Gives v w e w' := by
  obtain ⟨rfl, q, rfl⟩ := h
  exact ⟨rfl, below_drewN (Below.refl _ _) q⟩
theorem divide_any (u n : Int) (hu : IsUnit u) (h1 : -1000000000 ≤ n) (h2 : n ≤ 1000000000) (w : World) : Calls Try.prog 90 #[.int .i64 u, .int .i64 n] w (Drw (.tuple #[.int .i64 (n / u), .int .i64 (n % u)]) w) := by
  have ⟨hu1, hu2⟩ := hu.bd
  have hd := div_bd n u (by omega) h1 h2
  have hm := mod_bd n u (by omega)
  have hT := divT n u (by omega)
  clear hu
  by_cases h : n.tmod u < 0
  · obtain ⟨e1, e2⟩ := hT.1 h
    rw [e1] at hd ⊢
    rw [e2] at hm ⊢
    clear hT e1 e2
    generalize hq : n.tdiv u = q at *
    generalize hr : n.tmod u = r at *
    go_enter Try.func90, Try.ntmps90
    go_wp2_with go_region
    go_ret2
    exact ⟨rfl, 1, rfl⟩
  · obtain ⟨e1, e2⟩ := hT.2 (by omega)
    rw [e1] at hd ⊢
    rw [e2] at hm ⊢
    clear hT e1 e2
    go_enter Try.func90, Try.ntmps90
    go_wp2_with go_region
    go_ret2
    exact ⟨rfl, 1, rfl⟩
theorem down_any (u n : Int) (hu : IsUnit u) (h1 : -1000000000 ≤ n) (h2 : n ≤ 1000000000) (w : World) : Calls Try.prog 71 #[.int .i64 u, .int .i64 n] w (Drw (.int .i64 (rndI n u 0)) w) := by
  have ⟨hu1, hu2⟩ := hu.bd
  have hd := div_bd n u (by omega) h1 h2
  have hm := mod_bd n u (by omega)
  have HD := hidH (divide_any u n hu h1 h2)
  have HR := hidH (show rndI n u 0 = n / u from by simp [rndI])
  rw [HR.out]
  clear hu h1 h2
  generalize n / u = q at *
  generalize n % u = r at *
  go_enter Try.func71, Try.ntmps71
  go_wp2_with fail
  refine (HD.out _).mono ?_; rintro e w1 ⟨rfl, q1, rfl⟩
  go_wp2_with fail
  go_ret
  exact ⟨rfl, q1, rfl⟩
theorem near_any (u n : Int) (hu : IsUnit u) (h1 : -1000000000 ≤ n) (h2 : n ≤ 1000000000) (w : World) : Calls Try.prog 72 #[.int .i64 u, .int .i64 n] w (Drw (.int .i64 (rndI n u 1)) w) := by
  have ⟨hu1, hu2⟩ := hu.bd
  have hd := div_bd n u (by omega) h1 h2
  have hm := mod_bd n u (by omega)
  have HD := hidH (divide_any u n hu h1 h2)
  have HR := hidH (show rndI n u 1 = (if u < 2 * (n % u) ∨ 2 * (n % u) = u ∧ 0 < n then n / u + 1 else n / u) from by simp [rndI])
  rw [HR.out]
  clear hu h1 h2
  generalize n / u = q at *
  generalize n % u = r at *
  by_cases c1 : u < 2 * r
  · rw [if_pos (Or.inl c1)]
    go_enter Try.func72, Try.ntmps72
    go_wp2_with fail
    refine (HD.out _).mono ?_; rintro e w1 ⟨rfl, q1, rfl⟩
    go_wp2_with fail
    go_ret
    exact ⟨rfl, q1, rfl⟩
  · by_cases c2 : 2 * r = u
    · by_cases c3 : 0 < n
      · rw [if_pos (Or.inr ⟨c2, c3⟩)]
        go_enter Try.func72, Try.ntmps72
        go_wp2_with fail
        refine (HD.out _).mono ?_; rintro e w1 ⟨rfl, q1, rfl⟩
        go_wp2_with fail
        go_ret
        exact ⟨rfl, q1, rfl⟩
      · rw [if_neg (by omega)]
        go_enter Try.func72, Try.ntmps72
        go_wp2_with fail
        refine (HD.out _).mono ?_; rintro e w1 ⟨rfl, q1, rfl⟩
        go_wp2_with fail
        go_ret
        exact ⟨rfl, q1, rfl⟩
    · rw [if_neg (by omega)]
      go_enter Try.func72, Try.ntmps72
      go_wp2_with fail
      refine (HD.out _).mono ?_; rintro e w1 ⟨rfl, q1, rfl⟩
      go_wp2_with fail
      go_ret
      exact ⟨rfl, q1, rfl⟩
theorem even_any (u n : Int) (hu : IsUnit u) (h1 : -1000000000 ≤ n) (h2 : n ≤ 1000000000) (w : World) : Calls Try.prog 73 #[.int .i64 u, .int .i64 n] w (Drw (.int .i64 (rndI n u 2)) w) := by
  have ⟨hu1, hu2⟩ := hu.bd
  have hd := div_bd n u (by omega) h1 h2
  have hm := mod_bd n u (by omega)
  have HD := hidH (divide_any u n hu h1 h2)
  have HR := hidH (show rndI n u 2 = (if u < 2 * (n % u) ∨ 2 * (n % u) = u ∧ n / u % 2 ≠ 0 then n / u + 1 else n / u) from by simp [rndI])
  rw [HR.out]
  clear hu h1 h2
  generalize n / u = q at *
  generalize n % u = r at *
  by_cases c1 : u < 2 * r
  · rw [if_pos (Or.inl c1)]
    go_enter Try.func73, Try.ntmps73
    go_wp2_with fail
    refine (HD.out _).mono ?_; rintro e w1 ⟨rfl, q1, rfl⟩
    go_wp2_with fail
    go_ret
    exact ⟨rfl, q1, rfl⟩
  · by_cases c2 : 2 * r = u
    · by_cases c3 : q % 2 ≠ 0
      · rw [if_pos (Or.inr ⟨c2, c3⟩)]
        have c4 : (q.tmod 2 != 0) = true := by rw [bne_iff_ne]; exact fun e => c3 ((tmod2 q).1 e)
        have c5 := tmod_bd2 q
        go_enter Try.func73, Try.ntmps73
        go_wp2_with fail
        refine (HD.out _).mono ?_; rintro e w1 ⟨rfl, q1, rfl⟩
        go_wp2_with fail
        go_ret
        exact ⟨rfl, q1, rfl⟩
      · rw [if_neg (by omega)]
        have c4 : (q.tmod 2 != 0) = false := by rw [bne_eq_false_iff_eq]; exact (tmod2 q).2 (by omega)
        have c5 := tmod_bd2 q
        go_enter Try.func73, Try.ntmps73
        go_wp2_with fail
        refine (HD.out _).mono ?_; rintro e w1 ⟨rfl, q1, rfl⟩
        go_wp2_with fail
        go_ret
        exact ⟨rfl, q1, rfl⟩
    · rw [if_neg (by omega)]
      go_enter Try.func73, Try.ntmps73
      go_wp2_with fail
      refine (HD.out _).mono ?_; rintro e w1 ⟨rfl, q1, rfl⟩
      go_wp2_with fail
      go_ret
      exact ⟨rfl, q1, rfl⟩
end Go.Proofs.Ytcinhmfjnjecdaa
