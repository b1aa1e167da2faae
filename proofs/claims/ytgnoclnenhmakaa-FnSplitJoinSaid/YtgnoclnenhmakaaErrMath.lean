/-
  Errors of tables in plain mathematics: clean tables, patterns, effects of slips. No conditions but bounds of numbers.
-/
import Derived.Test.YtgnoclnenhmakaaPolyL
namespace Go.Proofs.Ytgnoclnenhmakaa
set_option maxRecDepth 4000
open Go.RowKit
theorem zeroOk_iff (zs : List Int) : zeroOk zs = true ↔ ∀ x ∈ zs, x = 0 := by
  unfold zeroOk
  simp
theorem dif_zero (zs : List Int) (h : ∀ x ∈ zs, x = 0) : ∀ x ∈ dif zs, x = 0 := by
  induction zs with
  | nil => intro x hx; simp [dif] at hx
  | cons a l ih =>
    cases l with
    | nil => intro x hx; simp [dif] at hx
    | cons b l =>
      intro x hx
      rw [dif] at hx
      rcases List.mem_cons.1 hx with rfl | hx
      · have := h a (by simp); have := h b (by simp); omega
      · exact ih (fun y hy => h y (List.mem_cons_of_mem _ hy)) x hx
theorem zero_next (zs : List Int) (h : zeroOk zs = true) : zeroOk (difW zs) = true := by
  rw [zeroOk_iff] at *
  intro x hx
  rw [difW] at hx
  obtain ⟨y, hy, rfl⟩ := List.mem_map.1 hx
  rw [dif_zero zs h y hy]
  exact wrap64_id 0 (by decide) (by decide)
theorem zero_mono (zs : List Int) (i j : Nat) (hij : i ≤ j) (h : zeroOk (difN i zs) = true) : zeroOk (difN j zs) = true := by
  induction j with
  | zero => obtain rfl : i = 0 := by omega
            exact h
  | succ j ih =>
    by_cases e : i = j + 1
    · subst e; exact h
    · rw [difN_snoc]; exact zero_next _ (ih (by omega))
theorem leastN_ge (f : Nat) : ∀ (j : Nat) (zs : List Int), f + j = 8 → (j : Int) - 1 ≤ leastN f j zs ∧ leastN f j zs ≤ 7 := by
  induction f with
  | zero => intro j zs h; simp [leastN]; omega
  | succ f ih =>
    intro j zs h
    rw [leastN]
    split
    · omega
    · have := ih (j + 1) zs (by omega); omega
theorem leastN_le (f : Nat) : ∀ (j : Nat) (zs : List Int) (d : Nat), f + j = 8 → j ≤ d + 1 → d ≤ 6 → (leastN f j zs ≤ (d : Int) ↔ zeroOk (difN (d + 1) zs) = true) := by
  induction f with
  | zero => intro j zs d h h1 h2; omega
  | succ f ih =>
    intro j zs d h h1 h2
    rw [leastN]
    split
    · rename_i hz
      exact ⟨fun _ => zero_mono zs j (d + 1) h1 hz, fun _ => by omega⟩
    · rename_i hz
      by_cases e : j = d + 1
      · subst e
        have := (leastN_ge f (d + 1 + 1) zs (by omega)).1
        exact ⟨fun hh => by omega, fun hh => absurd hh hz⟩
      · exact ih (j + 1) zs d (by omega) (by omega) h2
theorem least_ge (zs : List Int) : -2 ≤ leastL zs ∧ leastL zs ≤ 7 ∧ (tableOk zs = true → -1 ≤ leastL zs) ∧ (tableOk zs = false → leastL zs = -2) := by
  unfold leastL
  have := leastN_ge 8 0 zs rfl
  split
  · rename_i h; exact ⟨by omega, this.2, fun _ => by omega, fun hh => by rw [h] at hh; cases hh⟩
  · rename_i h; exact ⟨by omega, by omega, fun hh => absurd hh h, fun _ => rfl⟩
/-- A degree that is looked for. -/
def degOk (d : Int) : Bool := decide (0 ≤ d ∧ d ≤ 6)
/-- What CleanTable answers. -/
def cleanB (zs : List Int) (d : Int) : Bool := tableOk zs && (degOk d && zeroOk (difN (d.toNat + 1) zs))
theorem cleanB_eq (zs : List Int) (d : Int) : cleanB zs d = (degOk d && (decide (-1 ≤ leastL zs) && decide (leastL zs ≤ d))) := by
  have ⟨h1, h2, h3, h4⟩ := least_ge zs
  unfold cleanB
  cases ht : tableOk zs
  · have := h4 ht
    rw [this]; simp
  · have := h3 ht
    rw [Bool.true_and, decide_eq_true this, Bool.true_and]
    cases hd : degOk d
    · rfl
    · have ⟨a, b⟩ := of_decide_eq_true hd
      obtain ⟨n, rfl⟩ := Int.eq_ofNat_of_zero_le a
      have e : leastL zs = leastN 8 0 zs := by rw [leastL, ht]; rfl
      rw [Bool.true_and, Bool.true_and, e, Int.toNat_natCast, Bool.eq_iff_iff, decide_eq_true_eq]
      exact (leastN_le 8 0 zs n rfl (by omega) (by omega)).symm
/-! ### Patterns -/
/-- 1 for an even number, -1 for an odd one. -/
def sg (k : Nat) : Int := if k % 2 = 0 then 1 else -1
theorem sg_succ (k : Nat) : sg (k + 1) = -sg k := by
  unfold sg
  split <;> split <;> omega
theorem chN_small : ∀ o, o < 8 → ∀ k, k < 9 → 0 ≤ chN (o : Nat) k ∧ chN (o : Nat) k ≤ 35 := by decide
theorem chN_small_mul : ∀ o, o < 8 → ∀ k, k < 9 → -400 ≤ chN (o : Nat) k * ((o : Nat) - k) ∧ chN (o : Nat) k * ((o : Nat) - k) ≤ 400 := by decide
/-- The pattern of an error. -/
def patL (o : Nat) (a : Int) : List Int := (List.range (o + 1)).map fun k => sg k * chN o k * a
theorem patL_length (o : Nat) (a : Int) : (patL o a).length = o + 1 := by simp [patL]
theorem patL_get (o : Nat) (a : Int) (k : Nat) (h : k ≤ o) : (patL o a)[k]? = some (sg k * chN o k * a) := by simp [patL, show k < o + 1 by omega]
theorem patL_snoc (o : Nat) (a : Int) (k : Nat) (h : k ≤ o) : (patL o a).take (k + 1) = (patL o a).take k ++ [sg k * chN o k * a] := by
  rw [List.take_add_one, patL_get o a k h]; rfl
theorem sg_abs (k : Nat) : sg k = 1 ∨ sg k = -1 := by unfold sg; split <;> simp
theorem pat_bd (o : Nat) (ho : o ≤ 7) (k : Nat) (hk : k ≤ o) (a : Int) (A : Nat) (ha : a.natAbs ≤ A) : (sg k * chN o k * a).natAbs ≤ 35 * A := by
  have ⟨h1, h2⟩ := chN_small o (by omega) k (by omega)
  have h3 : (sg k * chN o k).natAbs ≤ 35 := by rcases sg_abs k with e | e <;> rw [e] <;> omega
  exact abs_mul_le h3 ha
/-- The order and the amount of a pattern. -/
def patOk (o _a : Int) : Bool := decide (0 ≤ o ∧ o ≤ 7)
def patA (o a : Int) : List Int := if patOk o a && inB 1000000000 a then patL o.toNat a else []
theorem patA_len (o a : Int) : (patA o a).length ≤ 1048576 := by
  unfold patA
  split
  · rename_i h
    simp only [Bool.and_eq_true] at h
    have := of_decide_eq_true h.1
    rw [patL_length]; omega
  · simp
end Go.Proofs.Ytgnoclnenhmakaa
