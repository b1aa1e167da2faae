/-
  Rounding: the parts of the program on single numbers. Conditions: a unit, and a number of a table.
-/
import Derived.Test.YtgogpajafjihdaaRndM
import Derived.Test.YtgogpajafjihdaaCols
import Derived.Test.YtgogpajafjihdaaPolyV
import Derived.RegionTactic
namespace Go.Proofs.Ytgogpajafjihdaa
set_option maxRecDepth 4000
open Go.RowKit
theorem between_any (n a b : Int) (r : Bool) (h : decide (a ≤ n ∧ n ≤ b) = r) (w : World) : Calls Try.prog 17 #[.int .i64 n, .int .i64 a, .int .i64 b] w fun e w' => e = .returned (.bool r) ∧ w = w' := by
  subst h
  by_cases h1 : a ≤ n
  · by_cases h2 : n ≤ b
    · have e : decide (a ≤ n ∧ n ≤ b) = true := decide_eq_true ⟨h1, h2⟩
      rw [e]
      go_enter Try.func17, Try.ntmps17
      go_wp2
      go_ret
      exact ⟨rfl, rfl⟩
    · have e : decide (a ≤ n ∧ n ≤ b) = false := decide_eq_false (fun h => h2 h.2)
      have e2 : decide (n ≤ b) = false := decide_eq_false h2
      rw [e]
      clear e
      go_enter Try.func17, Try.ntmps17
      go_wp2
      go_ret
      exact ⟨rfl, rfl⟩
  · have e : decide (a ≤ n ∧ n ≤ b) = false := decide_eq_false (fun h => h1 h.1)
    have e2 : decide (a ≤ n) = false := decide_eq_false h1
    rw [e]
    clear e
    go_enter Try.func17, Try.ntmps17
    go_wp2
    go_ret
    exact ⟨rfl, rfl⟩
/-- A call that answers v, writes nothing and may draw. -/
def Drw (v : Value) (w : World) (e : Ending) (w' : World) : Prop := e = .returned v ∧ ∃ q, w' = w.drewN q
theorem Drw.gives {v : Value} {w w' : World} {e : Ending} (h : Drw v w e w') : Gives v w e w' := by
  obtain ⟨rfl, q, rfl⟩ := h
  exact ⟨rfl, below_drewN (Below.refl _ _) q⟩
end Go.Proofs.Ytgogpajafjihdaa
