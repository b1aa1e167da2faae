/-
  DiffsOf, LeastDegree and Interpolate: the program and the model, at every argument. No conditions but that slices fit in memory.
-/
import Derived.Test.YtieealgmmkkgoaaPolyI
import Derived.Test.YtieealgmmkkgoaaPolyFa
namespace Go.Proofs.Ytieealgmmkkgoaa
set_option maxRecDepth 4000
open Go.RowKit
theorem tableOk_len (zs : List Int) (h : tableOk zs = true) : 1 ≤ zs.length ∧ zs.length ≤ 60 := by
  have ⟨a, b, _⟩ := (listOk_iff _ _ _).1 h
  exact ⟨a, b⟩
/-- What DiffsOf answers. -/
def shortOk (zs : List Int) : Bool := decide (zs.length ≤ 30)
def diffsA (zs : List Int) : List Int := if tableOk zs && shortOk zs then leadW zs.length zs else []
theorem diffsA_len (zs : List Int) : (diffsA zs).length ≤ 1048576 := by
  unfold diffsA
  split
  · rename_i h
    simp only [Bool.and_eq_true] at h
    have := tableOk_len _ h.1
    rw [leadW_length]; omega
  · simp
/-- The least degree, of f more degrees from j - 1 on. -/
def leastN : Nat → Nat → List Int → Int
  | 0, _, _ => 7
  | f + 1, j, zs => if zeroOk (difN j zs) then (j : Int) - 1 else leastN f (j + 1) zs
def leastL (zs : List Int) : Int := if tableOk zs then leastN 8 0 zs else -2
theorem leastN_hit (f j : Nat) (zs : List Int) (h : zeroOk (difN j zs) = true) : leastN (f + 1) j zs = (j : Int) - 1 := by rw [leastN, if_pos h]
theorem leastN_miss (f j : Nat) (zs : List Int) (h : zeroOk (difN j zs) = false) : leastN (f + 1) j zs = leastN f (j + 1) zs := by rw [leastN, if_neg (by rw [h]; decide)]
theorem zero_nil : zeroOk [] = true := rfl
theorem leastN_bd (f j : Nat) (zs : List Int) (h : f + j = 8) (hz : j ≤ zs.length) : (j : Int) - 1 ≤ leastN f j zs ∧ leastN f j zs ≤ 7 ∧ (leastN f j zs ≤ 6 → leastN f j zs + 1 ≤ zs.length) := by
  induction f generalizing j with
  | zero => simp [leastN]; omega
  | succ f ih =>
    cases hk : zeroOk (difN j zs)
    · have hlt : j < zs.length := by
        apply Classical.byContradiction
        intro hge
        have : difN j zs = [] := List.eq_nil_of_length_eq_zero (by rw [difN_length]; omega)
        rw [this, zero_nil] at hk; cases hk
      rw [leastN_miss f j zs hk]
      have := ih (j + 1) (by omega) (by omega)
      omega
    · rw [leastN_hit f j zs hk]
      omega
/-- How many differences a polynomial with a table has. -/
def interN (zs : List Int) : Nat := max (leastL zs + 1).toNat 1
def interOk (zs : List Int) : Bool := decide (-1 ≤ leastL zs ∧ leastL zs ≤ 6)
/-- What Interpolate answers. -/
def interA (zs : List Int) : List Int := if interOk zs then resL (leadW (interN zs) zs) else []
def interB (zs : List Int) : Bool := interOk zs && polyOk (leadW (interN zs) zs)
theorem interA_len (zs : List Int) : (interA zs).length ≤ 1048576 := by unfold interA; split <;> first | exact resL_len _ | simp
theorem inter_bd (zs : List Int) (h : interOk zs = true) : tableOk zs = true ∧ 1 ≤ zs.length ∧ zs.length ≤ 60 ∧ -1 ≤ leastL zs ∧ leastL zs ≤ 6 ∧ 1 ≤ interN zs ∧ interN zs ≤ zs.length ∧ (leastL zs + 1 ≤ 1 → interN zs = 1) ∧ (1 ≤ leastL zs + 1 → (interN zs : Int) = leastL zs + 1) := by
  have ⟨a, b⟩ := of_decide_eq_true h
  have ht : tableOk zs = true := by
    cases hk : tableOk zs
    · rw [leastL, hk] at a; simp at a
    · rfl
  have ⟨h1, h2⟩ := tableOk_len _ ht
  have e : leastL zs = leastN 8 0 zs := by rw [leastL, ht]; rfl
  have hb := leastN_bd 8 0 zs rfl (Nat.zero_le _)
  rw [← e] at hb
  unfold interN
  refine ⟨ht, h1, h2, a, b, ?_, ?_, ?_, ?_⟩ <;> omega
end Go.Proofs.Ytieealgmmkkgoaa
