/-
  The mathematics of finding a polynomial from its values: the least degree of a table of values, and the differences that are found. No conditions but bounds of numbers.
-/
import Derived.Test.YtgnoclnenhmakaaPolyL
import Derived.Test.YtgnoclnenhmakaaPolyFe
import Derived.Test.YtgnoclnenhmakaaPolyLf
import Derived.Test.YtgnoclnenhmakaaPolyLg
namespace Go.Proofs.Ytgnoclnenhmakaa
set_option maxRecDepth 4000
open Go.RowKit
theorem zeroOk_iff (zs : List Int) : zeroOk zs = true ↔ ∀ x ∈ zs, x = 0 := by
  simp [zeroOk]
theorem difN_vals (p : List Int) (hp : Small p) (n : Int) (c j : Nat) (hj : j ≤ c) (h1 : -300 ≤ n) (h2 : n + c ≤ 300) : difN j (vals p n c) = vals (p.drop j) n (c - j) := by
  induction j generalizing p c with
  | zero => rfl
  | succ j ih =>
    obtain ⟨d, rfl⟩ : ∃ d, c = d + 1 := ⟨c - 1, by omega⟩
    rw [difN, vals_difW p hp n d h1 (by omega), ih p.tail hp.tail d (by omega) (by omega), List.drop_tail, show d + 1 - (j + 1) = d - j by omega]
theorem vals_zero_next (p : List Int) (n : Int) (c : Nat) (h : ∀ i : Nat, i < c + 1 → evP p (n + i) = 0) : ∀ i : Nat, i < c → evP p.tail (n + i) = 0 := fun i hi => by
  have a := h i (by omega)
  have b := h (i + 1) (by omega)
  rw [show n + ((i + 1 : Nat) : Int) = n + i + 1 by omega, evP_step, a] at b
  omega
theorem vals_zero_drop (p : List Int) (n : Int) (c d : Nat) (h : ∀ i : Nat, i < c → evP p (n + i) = 0) (hd : d < c) : evP (p.drop d) n = 0 := by
  induction d generalizing p c with
  | zero => have := h 0 (by omega); rw [List.drop_zero]; simpa using this
  | succ d ih =>
    obtain ⟨e, rfl⟩ : ∃ e, c = e + 1 := ⟨c - 1, by omega⟩
    have := ih p.tail e (vals_zero_next p n e h) (by omega)
    rwa [List.drop_tail] at this
theorem vals_zero_iff (p : List Int) (n : Int) (c : Nat) : zeroOk (vals p n c) = true ↔ ∀ i : Nat, i < c → evP p (n + i) = 0 := by
  rw [zeroOk_iff]
  constructor
  · intro h i hi
    exact h _ (List.mem_of_getElem? (vals_get p n c i hi))
  · intro h x hx
    obtain ⟨i, hi, rfl⟩ := List.mem_map.1 hx
    exact h i (List.mem_range.1 hi)
/-- The differences of order j of a table of values are 0 just where the shifted polynomial has no more. -/
theorem zero_shift (p : List Int) (hp : Small p) (n : Int) (c j : Nat) (hc : p.length ≤ c) (hj : j ≤ p.length) (h1 : -300 ≤ n) (h2 : n + c ≤ 300) : zeroOk (difN j (vals p n c)) = true ↔ ∀ i, j ≤ i → i < p.length → (shiftL p n p.length).getD i 0 = 0 := by
  rw [difN_vals p hp n c j (by omega) h1 h2, vals_zero_iff]
  constructor
  · intro h i hij hi
    have := vals_zero_drop (p.drop j) n (c - j) (i - j) h (by omega)
    rw [List.drop_drop, show j + (i - j) = i by omega] at this
    rw [List.getD_eq_getElem?_getD, shiftL_get _ _ _ _ hi]
    exact this
  · intro h i _
    have e := ev_shift (p.drop j) n i
    rw [show n + (i : Int) = i + n by omega, ← e]
    refine ev_allzero _ _ (fun x hx => ?_) 0
    obtain ⟨k, hk, rfl⟩ := List.mem_map.1 hx
    have hk := List.mem_range.1 hk
    rw [List.length_drop] at hk
    have := h (j + k) (by omega) (by omega)
    rw [List.getD_eq_getElem?_getD, shiftL_get _ _ _ _ (by omega)] at this
    rw [List.drop_drop]
    exact this
theorem leastN_run (V : List Int) (T : Nat) (hT : zeroOk (difN T V) = true) (hm : ∀ j, j < T → zeroOk (difN j V) = false) : ∀ d j f, j + d = T → d < f → leastN f j V = (T : Int) - 1 := fun d => by
  induction d with
  | zero =>
    intro j f hj hf
    obtain ⟨f, rfl⟩ : ∃ k, f = k + 1 := ⟨f - 1, by omega⟩
    obtain rfl : j = T := by omega
    exact leastN_hit f j V hT
  | succ d ih =>
    intro j f hj hf
    obtain ⟨f, rfl⟩ : ∃ k, f = k + 1 := ⟨f - 1, by omega⟩
    rw [leastN_miss f j V (hm j (by omega))]
    exact ih (j + 1) f (by omega) (by omega)
theorem vals_take (p : List Int) (n : Int) (c T : Nat) (h : T ≤ c) : (vals p n c).take T = vals p n T := by
  unfold vals
  rw [← List.map_take, List.take_range, Nat.min_eq_left h]
theorem shiftL_take (p : List Int) (n : Int) (c T : Nat) (h : T ≤ c) : (shiftL p n c).take T = shiftL p n T := by
  unfold shiftL
  rw [← List.map_take, List.take_range, Nat.min_eq_left h]
/-- What is found from enough values of a polynomial. -/
theorem inter_vals (p : List Int) (n : Int) (c : Nat) (hp : polyOk p = true) (hc : p.length ≤ c) (h1 : -300 ≤ n) (h2 : n + c ≤ 300) (ht : tableOk (vals p n c) = true) (hs : polyOk (shiftL p n p.length) = true) : interB (vals p n c) = true ∧ interA (vals p n c) = trimA (shiftL p n p.length) := by
  have ⟨p1, hsm⟩ := polyOk_small _ hp
  have p7 := hsm.1
  generalize hS : shiftL p n p.length = S at *
  have hlS : S.length = p.length := by rw [← hS, shiftL_length]
  have hT1 := trimTo_pos S S.length (by omega)
  have hT2 := trimTo_le S S.length
  have ⟨ta, tb⟩ := trimTo_tail S S.length (Nat.le_refl _)
  have hz := zero_trim S (by omega)
  have hZ : ∀ j, j ≤ p.length → (zeroOk (difN j (vals p n c)) = true ↔ ∀ i, j ≤ i → i < p.length → S.getD i 0 = 0) := fun j hj => by
    have := zero_shift p hsm n c j hc hj h1 h2
    rwa [hS] at this
  have htr : trimL S = shiftL p n (trimTo S S.length) := by rw [trimL, ← hS, shiftL_take _ _ _ _ (by rw [hS]; omega)]
  have hlead : leadW (trimTo S S.length) (vals p n c) = trimL S := by
    rw [← leadW_take _ _ (trimTo S S.length) (Nat.le_refl _) (by rw [vals_length]; omega), vals_take _ _ _ _ (by omega), lead_vals p hsm n _ h1 (by omega), htr]
  have hok := trim_ok S hs
  have main : interN (vals p n c) = trimTo S S.length ∧ interOk (vals p n c) = true := by
    have el : leastL (vals p n c) = leastN 8 0 (vals p n c) := by rw [leastL, ht]; rfl
    cases hzs : zeroOk S
    · rw [hzs] at hz
      have hz := of_decide_eq_false hz.symm
      have hne : S.getD (trimTo S S.length - 1) 0 ≠ 0 := by
        by_cases h3 : 2 ≤ trimTo S S.length
        · exact tb h3
        · have e1 : trimTo S S.length = 1 := by omega
          rw [e1]
          exact fun h0 => hz ⟨e1, h0⟩
      have hT := (hZ (trimTo S S.length) (by omega)).2 fun i hi hl => ta i hi (by omega)
      have hm : ∀ j, j < trimTo S S.length → zeroOk (difN j (vals p n c)) = false := fun j hj => by
        cases hk : zeroOk (difN j (vals p n c))
        · rfl
        · exact absurd ((hZ j (by omega)).1 hk (trimTo S S.length - 1) (by omega) (by omega)) hne
      have hl := leastN_run _ _ hT hm (trimTo S S.length) 0 8 (by omega) (by omega)
      refine ⟨by unfold interN; rw [el, hl]; omega, decide_eq_true ?_⟩
      rw [el, hl]
      omega
    · rw [hzs] at hz
      have ⟨e1, e0⟩ := of_decide_eq_true hz.symm
      have hT := (hZ 0 (by omega)).2 fun i _ hl => by
        by_cases hi : i = 0
        · subst hi; exact e0
        · exact ta i (by omega) (by omega)
      have hl : leastN 8 0 (vals p n c) = -1 := leastN_hit 7 0 _ hT
      refine ⟨by unfold interN; rw [el, hl, e1]; rfl, decide_eq_true ?_⟩
      rw [el, hl]
      omega
  unfold interB interA
  rw [main.1, main.2, hlead, hok, if_pos rfl]
  exact ⟨rfl, by rw [resL, hok, if_pos rfl, trimA, hs, if_pos rfl]⟩
theorem values_ways (zs : List Int) (n c : Int) : (valuesB zs n c = true ∧ polyOk zs = true ∧ -200 ≤ n ∧ n ≤ 200 ∧ 0 ≤ c ∧ c ≤ 60 ∧ valuesA zs n c = vals zs n c.toNat) ∨ valuesB zs n c = false := by
  unfold valuesB valuesA
  cases h : polyOk zs
  · exact .inr rfl
  · cases h2 : inB 200 n
    · exact .inr rfl
    · have hb := of_decide_eq_true h2
      cases h3 : valsOk n c
      · exact .inr rfl
      · have hv := of_decide_eq_true h3
        exact .inl ⟨rfl, rfl, hb.1, hb.2, hv.1, hv.2.1, rfl⟩
end Go.Proofs.Ytgnoclnenhmakaa
