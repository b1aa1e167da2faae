/-
  SlipEffect: the program and the model, at every argument. No conditions.
-/
import Derived.Test.YtpkieconbfgbdaaErrB
namespace Go.Proofs.Ytpkieconbfgbdaa
set_option maxRecDepth 4000
open Go.RowKit
/-- The numbers of a slip. -/
def colOk4 (c : Int) : Bool := decide (0 ≤ c ∧ c ≤ 6)
def trnOk (t : Int) : Bool := decide (0 ≤ t ∧ t ≤ 59)
def cntOk4 (c : Int) : Bool := decide (0 ≤ c ∧ c ≤ 60)
def slipOk (c t a : Int) : Bool := colOk4 c && (trnOk t && inB 100000 a)
/-- By how much the result with the index n is wrong. -/
def effN (c t : Nat) (a : Int) (n : Nat) : Int := if n < t then 0 else a * chN ((n - t : Nat) : Int) c
def effL (c t : Nat) (a : Int) (count : Nat) : List Int := (List.range count).map (effN c t a)
theorem effL_length (c t : Nat) (a : Int) (n : Nat) : (effL c t a n).length = n := by simp [effL]
theorem effL_get (c t : Nat) (a : Int) (n k : Nat) (h : k < n) : (effL c t a n)[k]? = some (effN c t a k) := by simp [effL, h]
theorem effL_snoc (c t : Nat) (a : Int) (n : Nat) : effL c t a (n + 1) = effL c t a n ++ [effN c t a n] := by simp [effL, List.range_succ]
def effOk (c t a n : Int) : Bool := slipOk c t a && cntOk4 n
def effA (c t a n : Int) : List Int := if effOk c t a n then effL c.toNat t.toNat a n.toNat else []
theorem effA_len (c t a n : Int) : (effA c t a n).length ≤ 1048576 := by
  unfold effA
  split
  · rename_i h
    simp only [effOk, Bool.and_eq_true] at h
    have := of_decide_eq_true h.2
    rw [effL_length]; omega
  · simp
theorem eff_bd (c t : Nat) (hc : c ≤ 6) (a : Int) (ha : -100000 ≤ a ∧ a ≤ 100000) (n : Nat) (hn : n ≤ 100) (ht : t ≤ n) : -200000000000000000 ≤ a * chN ((n - t : Nat) : Int) c ∧ a * chN ((n - t : Nat) : Int) c ≤ 200000000000000000 := by
  have ⟨h1, h2⟩ := chN_bd ((n - t : Nat) : Int) (by omega) (by omega) c hc
  have := abs_mul_le (a := a) (b := chN ((n - t : Nat) : Int) c) (A := 100000) (B := 1200000000000) (by omega) (by omega)
  omega
theorem slip_bd {c t a : Int} (h : slipOk c t a = true) : 0 ≤ c ∧ c ≤ 6 ∧ 0 ≤ t ∧ t ≤ 59 ∧ -100000 ≤ a ∧ a ≤ 100000 := by
  simp only [slipOk, Bool.and_eq_true] at h
  obtain ⟨h1, h2, h3⟩ := h
  have := of_decide_eq_true h1; have := of_decide_eq_true h2; have := of_decide_eq_true h3
  omega
end Go.Proofs.Ytpkieconbfgbdaa
