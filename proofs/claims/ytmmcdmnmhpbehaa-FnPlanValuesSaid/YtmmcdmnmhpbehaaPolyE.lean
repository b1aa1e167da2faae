/-
  Binomial and EvalPoly, the program and the model, at every argument. No conditions but that slices fit in memory.
-/
import Derived.Test.YtmmcdmnmhpbehaaPolyI
namespace Go.Proofs.Ytmmcdmnmhpbehaa
set_option maxRecDepth 4000
open Go.RowKit
theorem inB_200 (n : Int) (h : inB 200 n = true) : -200 ≤ n ∧ n ≤ 200 := of_decide_eq_true h
/-- What Binomial answers. -/
theorem binom_cases (n k : Int) : (∃ j : Nat, k = j ∧ inB 200 n = true ∧ j ≤ 6) ∨ (inB 200 n = false ∨ k < 0 ∨ 6 < k) := by
  by_cases hk : 0 ≤ k ∧ k ≤ 6
  · obtain ⟨j, rfl⟩ := Int.eq_ofNat_of_zero_le hk.1
    cases h : inB 200 n
    · exact .inr (.inl rfl)
    · exact .inl ⟨j, rfl, rfl, by omega⟩
  · exact .inr (.inr (by omega))
theorem evalPoly_yes (v : Value) (zs : List Int) (n : Int) (hz : polyOk zs = true) (hn : inB 200 n = true) (w : World) (lo hi : Nat) (hv : Lies w lo hi v zs) : Calls Try.prog 36 #[v, .int .i64 n] w (Gives (.tuple #[.int .i64 (evP zs n), .bool true]) w) := by
  have ⟨a, b⟩ := inB_200 n hn
  have HN := hidH hn
  have HZ := hidH hz
  have HV := hidH hv
  clear hn hz hv
  go_enter Try.func36, Try.ntmps36
  go_wp2_with fail
  refine (polyValid_any v zs _ _ _ HV.out).mono ?_; rintro e w1 ⟨rfl, hb⟩
  rw [HZ.out]
  have HB := hidH hb
  clear hb
  go_wp2_with fail
  refine (within_yes _ _ HN.out (by omega) (by omega) _).mono ?_; rintro e w2 ⟨rfl, rfl⟩
  go_wp2_with fail
  refine (valueAt_any v zs n (by omega) (by omega) (polyOk_small _ HZ.out).2 _ _ _ (HV.out.below HB.out)).mono ?_; rintro e w3 ⟨rfl, q, rfl⟩
  go_wp2_with fail
  go_ret2
  exact ⟨rfl, below_drewN HB.out _⟩
theorem evalPoly_no (v : Value) (zs : List Int) (n : Int) (h : (polyOk zs && inB 200 n) = false) (w : World) (lo hi : Nat) (hv : Lies w lo hi v zs) : Calls Try.prog 36 #[v, .int .i64 n] w (Gives (.tuple #[.int .i64 0, .bool false]) w) := by
  have HV := hidH hv
  clear hv
  cases hz : polyOk zs
  · have HZ := hidH hz
    clear h hz
    go_enter Try.func36, Try.ntmps36
    go_wp2_with fail
    refine (polyValid_any v zs _ _ _ HV.out).mono ?_; rintro e w1 ⟨rfl, hb⟩
    rw [HZ.out]
    go_wp2_with fail
    go_ret2
    exact ⟨rfl, hb⟩
  · rw [hz, Bool.true_and] at h
    have HZ := hidH hz
    have HN := hidH h
    clear h hz
    go_enter Try.func36, Try.ntmps36
    go_wp2_with fail
    refine (polyValid_any v zs _ _ _ HV.out).mono ?_; rintro e w1 ⟨rfl, hb⟩
    rw [HZ.out]
    go_wp2_with fail
    refine (within_no _ _ HN.out (by omega) (by omega) _).mono ?_; rintro e w2 ⟨rfl, rfl⟩
    go_wp2_with fail
    go_ret2
    exact ⟨rfl, hb⟩
/-- What EvalPoly answers. -/
def evA (zs : List Int) (n : Int) : Int := if polyOk zs && inB 200 n then evP zs n else 0
def evB (zs : List Int) (n : Int) : Bool := polyOk zs && inB 200 n
theorem evalPoly_any (v : Value) (zs : List Int) (n : Int) (w : World) (lo hi : Nat) (hv : Lies w lo hi v zs) : Calls Try.prog 36 #[v, .int .i64 n] w (Gives (.tuple #[.int .i64 (evA zs n), .bool (evB zs n)]) w) := by
  unfold evA evB
  cases h : (polyOk zs && inB 200 n)
  · exact evalPoly_no v zs n h w lo hi hv
  · have ⟨a, b⟩ := (Bool.and_eq_true _ _).mp h
    exact evalPoly_yes v zs n a b w lo hi hv
end Go.Proofs.Ytmmcdmnmhpbehaa
