/-
  Mathematics of the least degree: a table whose differences of some order are all zero has the values of the polynomial of its first differences, and with fewer of them it has not. No conditions.
-/
import Derived.Test.YtgnoclnenhmakaaPolyAm
namespace Go.Proofs.Ytgnoclnenhmakaa
set_option maxRecDepth 4000
open Go.RowKit
theorem newton_tab (T : Nat) : ∀ (V : List Int) (M : Nat), (∀ x ∈ V, x.natAbs ≤ M) → M * 2 ^ T ≤ 9223372036854775807 → zeroOk (difN T V) = true → ∀ n, n < V.length → V[n]? = some (evP (leadW T V) (n : Nat)) := by
  induction T with
  | zero =>
    intro V M _ _ hz n hn
    have h := (zeroOk_iff V).1 hz
    obtain ⟨x, hx⟩ := get_lt V n hn
    rw [hx, h x (List.mem_of_getElem? hx)]
    rfl
  | succ T ih =>
    intro V M hM hb hz n
    have hM2 : 2 * M ≤ 9223372036854775807 := by
      have h1 : 2 ^ 1 ≤ 2 ^ (T + 1) := Nat.pow_le_pow_right (by decide) (by omega)
      have h2 : M * 2 ^ 1 ≤ M * 2 ^ (T + 1) := Nat.mul_le_mul_left _ h1
      omega
    have hd : difW V = dif V := difW_id V fun x hx => Nat.le_trans (dif_bd V M hM x hx) hM2
    have ih := ih (difW V) (2 * M) (by rw [hd]; exact dif_bd V M hM) (by rw [Nat.mul_comm 2 M, Nat.mul_assoc, ← Nat.pow_succ']; exact hb) hz
    rw [difW_length] at ih
    have el : leadW (T + 1) V = V.headD 0 :: leadW T (difW V) := rfl
    rw [el]
    induction n with
    | zero =>
      intro hn
      obtain ⟨x, hx⟩ := get_lt V 0 hn
      have h0 : V.headD 0 = x := by
        cases V with
        | nil => simp at hn
        | cons a r => simpa using hx
      rw [hx, h0]
      congr 1
      exact (evP_zero x _).symm
    | succ n ihn =>
      intro hn
      have ha := ihn (by omega)
      obtain ⟨b, hbn⟩ := get_lt V (n + 1) hn
      have hdn := dif_get V n _ b ha hbn
      have hi := ih n (by omega)
      rw [hd] at hi
      rw [hdn] at hi
      injection hi with hi
      have hcs := evP_cons (V.headD 0) (leadW T (difW V)) n
      rw [hbn]
      congr 1
      rw [hd] at hcs ⊢
      rw [hd] at hi
      rw [show ((n + 1 : Nat) : Int) = (n : Int) + 1 by omega]
      omega
theorem difN_bd (V : List Int) (M : Nat) (hM : ∀ x ∈ V, x.natAbs ≤ M) : ∀ k, M * 2 ^ k ≤ 9223372036854775807 → ∀ x ∈ difN k V, x.natAbs ≤ M * 2 ^ k := by
  intro k
  induction k with
  | zero => intro _ x hx; rw [Nat.pow_zero, Nat.mul_one]; exact hM x hx
  | succ k ih =>
    intro hb x hx
    have hb2 : M * 2 ^ k ≤ 9223372036854775807 := Nat.le_trans (Nat.mul_le_mul_left _ (Nat.pow_le_pow_right (by decide) (by omega))) hb
    have e : M * 2 ^ (k + 1) = 2 * (M * 2 ^ k) := by rw [Nat.pow_succ, ← Nat.mul_assoc, Nat.mul_comm]
    have hd : difW (difN k V) = dif (difN k V) := difW_id _ fun y hy => Nat.le_trans (dif_bd _ _ (ih hb2) y hy) (by omega)
    rw [difN_snoc, hd] at hx
    rw [e]
    exact dif_bd _ _ (ih hb2) x hx
theorem last_nz (V : List Int) (M : Nat) (hM : ∀ x ∈ V, x.natAbs ≤ M) (k : Nat) (hb : M * 2 ^ (k + 1) ≤ 9223372036854775807) (h1 : zeroOk (difN (k + 1) V) = true) (h0 : zeroOk (difN k V) = false) : (difN k V).headD 0 ≠ 0 := by
  intro hh
  have hb2 : M * 2 ^ k ≤ 9223372036854775807 := Nat.le_trans (Nat.mul_le_mul_left _ (Nat.pow_le_pow_right (by decide) (by omega))) hb
  have hn := newton_tab 1 (difN k V) (M * 2 ^ k) (difN_bd V M hM k hb2) (by rw [Nat.mul_assoc, ← Nat.pow_succ]; exact hb) (by show zeroOk (difW (difN k V)) = true; rw [← difN_snoc]; exact h1)
  have : zeroOk (difN k V) = true := (zeroOk_iff _).2 fun x hx => by
    obtain ⟨n, hn1, rfl⟩ := List.getElem_of_mem hx
    have := hn n hn1
    rw [List.getElem?_eq_getElem hn1] at this
    injection this with this
    rw [this]
    show evP [(difN k V).headD 0] n = 0
    rw [hh]
    simp [evP, ev]
  rw [this] at h0
  cases h0
theorem leastN_spec : ∀ (f j : Nat) (V : List Int), f + j = 8 → leastN f j V ≤ 6 → ∃ T : Nat, leastN f j V = (T : Int) - 1 ∧ j ≤ T ∧ T ≤ 7 ∧ zeroOk (difN T V) = true ∧ ∀ i, j ≤ i → i < T → zeroOk (difN i V) = false
  | 0, j, V, _, h => by simp [leastN] at h
  | f + 1, j, V, hf, h => by
    cases hz : zeroOk (difN j V)
    · rw [leastN_miss f j V hz] at h ⊢
      obtain ⟨T, e, h1, h2, h3, h4⟩ := leastN_spec f (j + 1) V (by omega) h
      refine ⟨T, e, by omega, h2, h3, fun i hi hT => ?_⟩
      by_cases hij : i = j
      · rw [hij]; exact hz
      · exact h4 i (by omega) hT
    · rw [leastN_hit f j V hz] at h ⊢
      exact ⟨j, rfl, Nat.le_refl _, by omega, hz, fun i h1 h2 => by omega⟩
theorem few_differs (V few : List Int) (k : Nat) (hs : Small few) (hk : few.length = k) (hV : V.length ≤ 60) (hkV : k ≤ V.length) (h0 : zeroOk (difN k V) = false) (h : ∀ n, n < V.length → V[n]? = some (evP few (n : Nat))) : False := by
  have e : V = vals few 0 V.length := by
    refine list_ext (by rw [vals_length]) fun i x y hx hy => ?_
    have hi := (List.getElem?_eq_some_iff.1 hx).1
    rw [h i hi] at hx
    rw [vals_get few 0 V.length i hi, Int.zero_add] at hy
    injection hx with hx
    injection hy with hy
    rw [← hx, ← hy]
  have hd := difN_vals few hs 0 V.length k hkV (by omega) (by omega)
  rw [← e, List.drop_of_length_le (by omega)] at hd
  have : zeroOk (difN k V) = true := by
    rw [hd]
    exact (zeroOk_iff _).2 fun x hx => by
      obtain ⟨i, _, rfl⟩ := List.mem_map.1 hx
      rfl
  rw [this] at h0
  cases h0

theorem tab_abs (V : List Int) (h : tableOk V = true) : ∀ x ∈ V, x.natAbs ≤ 1000000000 := by
  have ⟨_, _, hz⟩ := (listOk_iff _ _ _).1 h
  intro x hx
  have := hz x hx
  omega
theorem lead_one (V : List Int) : leadW 1 V = [V.headD 0] := rfl
theorem head_zero (V : List Int) (h : zeroOk V = true) : V.headD 0 = 0 := by
  cases V with
  | nil => rfl
  | cons a r => exact (zeroOk_iff _).1 h a List.mem_cons_self
/-- What a table tells whose least degree is not too great. -/
theorem least_spec (V : List Int) (h : interOk V = true) : ∃ T : Nat, leastL V = (T : Int) - 1 ∧ T ≤ 7 ∧ T ≤ V.length ∧ interN V = max T 1 ∧ zeroOk (difN T V) = true ∧ (∀ i, i < T → zeroOk (difN i V) = false) ∧ tableOk V = true ∧ 1 ≤ V.length ∧ V.length ≤ 60 := by
  have ⟨ht, l1, l60, k1, k2, n1, n2, n3, n4⟩ := inter_bd V h
  have e : leastL V = leastN 8 0 V := by rw [leastL, ht]; rfl
  obtain ⟨T, eT, _, h7, hz, hm⟩ := leastN_spec 8 0 V rfl (by rw [← e]; exact k2)
  rw [← e] at eT
  refine ⟨T, eT, h7, by omega, by omega, hz, fun i hi => hm i (Nat.zero_le _) hi, ht, l1, l60⟩
theorem inter_no (V : List Int) (h : interOk V = true) (hb : interB V = false) : 0 ≤ leastL V := by
  obtain ⟨T, eT, h7, hT, hN, hz, _, ht, l1, _⟩ := least_spec V h
  refine Int.not_lt.1 fun hlt => ?_
  obtain rfl : T = 0 := by omega
  rw [interB, h, Bool.true_and, hN, show max 0 1 = 1 from rfl, lead_one, head_zero V hz] at hb
  exact absurd hb (by decide)
theorem inter_yes (V : List Int) (h : interB V = true) : ∃ (T : Nat) (P : List Int), interA V = P ∧ leastL V = (T : Int) - 1 ∧ T ≤ 7 ∧ P.length = max T 1 ∧ polyOk P = true ∧ degL P = (T : Int) - 1 ∧ (∀ n, n < V.length → V[n]? = some (evP P (n : Nat))) ∧ (2 ≤ T → ¬ ∀ n, n < V.length → V[n]? = some (evP (P.take (T - 1)) (n : Nat))) ∧ V.length ≤ 60 := by
  rw [interB, Bool.and_eq_true] at h
  obtain ⟨hok, hp⟩ := h
  obtain ⟨T, eT, h7, hT, hN, hz, hm, ht, l1, l60⟩ := least_spec V hok
  have ha := tab_abs V ht
  have hpow : ∀ k, k ≤ 8 → 1000000000 * 2 ^ k ≤ 9223372036854775807 := fun k hk => Nat.le_trans (Nat.mul_le_mul_left _ (Nat.pow_le_pow_right (by decide) hk)) (by decide)
  have eA : interA V = leadW (interN V) V := by
    rw [interA, if_pos hok, resL, if_pos hp]
  rw [hN] at eA hp
  refine ⟨T, leadW (max T 1) V, eA, eT, h7, leadW_length _ _, hp, ?_, ?_, ?_, l60⟩
  · rw [degL, if_pos hp]
    by_cases h0 : T = 0
    · subst h0
      have : zeroOk (leadW (max 0 1) V) = true := by
        show zeroOk [V.headD 0] = true
        rw [head_zero V hz]
        rfl
      rw [if_pos this]
      rfl
    · rw [show max T 1 = T by omega]
      have hl := leadW_get T (T - 1) V (by omega)
      have hnz := last_nz V 1000000000 ha (T - 1) (hpow _ (by omega)) (by rw [show T - 1 + 1 = T by omega]; exact hz) (hm (T - 1) (by omega))
      have hnzp : ¬ zeroOk (leadW T V) = true := fun hzz => hnz ((zeroOk_iff _).1 hzz _ (List.mem_of_getElem? hl))
      rw [if_neg hnzp, leadW_length]
      have ht : trimTo (leadW T V) T = T := by
        rcases T with _ | _ | T
        · exact absurd rfl h0
        · rfl
        · exact trimTo_nz _ _ _ hl hnz
      rw [ht]
  · by_cases h0 : T = 0
    · subst h0
      refine newton_tab 1 V 1000000000 ha (hpow 1 (by decide)) ?_
      have hz0 := (zeroOk_iff V).1 hz
      refine (zeroOk_iff _).2 fun x hx => ?_
      have hd : difW V = dif V := difW_id V fun x hx => Nat.le_trans (dif_bd V 1000000000 ha x hx) (by decide)
      have hx2 : x ∈ dif V := by rw [← hd]; exact hx
      have := dif_bd V 0 (fun y hy => by rw [hz0 y hy]; decide) x hx2
      omega
    · rw [show max T 1 = T by omega]
      exact newton_tab T V 1000000000 ha (hpow T (by omega)) hz
  · intro hT2 hall
    rw [show max T 1 = T by omega] at hp hall
    have ⟨_, hs⟩ := polyOk_small _ hp
    have hlen := leadW_length T V
    exact few_differs V ((leadW T V).take (T - 1)) (T - 1) ⟨by rw [List.length_take]; omega, fun x hx => hs.2 x (List.mem_of_mem_take hx)⟩ (by rw [List.length_take]; omega) l60 (by omega) (hm (T - 1) (by omega)) hall
end Go.Proofs.Ytgnoclnenhmakaa
