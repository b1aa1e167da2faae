/-
  Mathematics of chains of carries: carries follow each other as often as one more than the longest run of nines above a marked wheel. No conditions.
-/
import Derived.Test.YtckmnclpediliaaDoorMathB
namespace Go.Proofs.YtckmnclpediliaaDoor
/-- How many nines stand at the beginning. -/
def runN : List Int → Nat
  | [] => 0
  | a :: l => if a = 9 then runN l + 1 else 0
/-- One more than the longest run of nines above a marked wheel; 0 if none is marked. -/
def chainN : List Int → List Int → Nat
  | _ :: A, m :: M => max (if m = 1 then 1 + runN A else 0) (chainN A M)
  | _, _ => 0
/-- A marked wheel does not show 9. -/
def neverN : List Int → List Int → Prop
  | a :: A, m :: M => (m = 1 → a ≠ 9) ∧ neverN A M
  | _, _ => True
theorem run_same : ∀ (A M : List Int), A.length = M.length → digs A → flags M → neverN A M → runN (turnD A (0 :: M)) = runN A
  | [], [], _, _, _, _ => rfl
  | [], m :: M, h, _, _, _ => by simp at h
  | a :: A, [], h, _, _, _ => by simp at h
  | a :: A, m :: M, h, hd, hf, hn => by
    have ⟨⟨a0, a1⟩, hd2⟩ := digs_cons.1 hd
    have ⟨⟨m0, m1⟩, hf2⟩ := flags_cons.1 hf
    have e : (a + 0) % 10 = a := by omega
    simp only [turnD, runN, e]
    by_cases h9 : a = 9
    · have hm : m = 0 := by
        have := hn.1
        omega
      rw [if_pos h9, if_pos h9, hm, run_same A M (by simpa using h) hd2 hf2 hn.2]
    · rw [if_neg h9, if_neg h9]
theorem chain_step : ∀ (A M : List Int) (c : Int), 0 ≤ c → c ≤ 1 → A.length = M.length → digs A → flags M → neverN A M →
    max (if c = 1 then 1 + runN A else 0) (chainN A M) = if c = 1 ∨ num M ≠ 0 then 1 + chainN (turnD A (c :: M)) (passD A (c :: M)) else 0
  | [], [], c, _, _, _, _, _, _ => by
    by_cases h : c = 1
    · simp [h, runN, chainN, turnD]
    · simp [h, chainN, num]
  | [], m :: M, _, _, _, h, _, _, _ => by simp at h
  | a :: A, [], _, _, _, h, _, _, _ => by simp at h
  | a :: A, m :: M, c, c0, c1, h, hd, hf, hn => by
    have ⟨⟨a0, a1⟩, hd2⟩ := digs_cons.1 hd
    have ⟨⟨m0, m1⟩, hf2⟩ := flags_cons.1 hf
    have hl : A.length = M.length := by simpa using h
    have ih := chain_step A M m m0 m1 hl hd2 hf2 hn.2
    have hnb := (num_bd M (flags_digs hf2)).1
    have hz := chain_quiet A M hl hd2 hf2
    have hmk : (num (m :: M) ≠ 0) ↔ (m = 1 ∨ num M ≠ 0) := by
      simp only [num]
      omega
    have e1 : chainN (a :: A) (m :: M) = max (if m = 1 then 1 + runN A else 0) (chainN A M) := rfl
    have e2 : chainN (turnD (a :: A) (c :: m :: M)) (passD (a :: A) (c :: m :: M)) = max (if (a + c) / 10 = 1 then 1 + runN (turnD A (m :: M)) else 0) (chainN (turnD A (m :: M)) (passD A (m :: M))) := rfl
    rw [e1, e2, ih]
    by_cases hc : c = 1
    · subst hc
      rw [if_pos rfl, if_pos (Or.inl rfl)]
      by_cases h9 : a = 9
      · subst h9
        have hm : m = 0 := by have := hn.1; omega
        subst hm
        rw [run_same A M hl hd2 hf2 hn.2]
        simp only [runN, if_true]
        rw [if_pos (show ((9 : Int) + 1) / 10 = 1 by decide)]
        by_cases hM : num M ≠ 0
        · rw [if_pos (Or.inr hM)]
          omega
        · rw [if_neg (by intro h; rcases h with h | h; · cases h
                         · exact hM h)]
          have := hz (by simpa using hM)
          omega
      · have hq : ¬ (a + 1) / 10 = 1 := by omega
        rw [if_neg hq]
        simp only [runN, if_neg h9]
        by_cases hM : m = 1 ∨ num M ≠ 0
        · rw [if_pos hM]
          omega
        · rw [if_neg hM]
          have hm : m = 0 := by omega
          have := hz (by have : ¬ num M ≠ 0 := fun h => hM (Or.inr h); simpa using this)
          rw [hm]
          omega
    · have hc0 : c = 0 := by omega
      subst hc0
      have hq : ¬ (a + 0) / 10 = 1 := by omega
      rw [if_neg hc, if_neg hq]
      by_cases hM : m = 1 ∨ num M ≠ 0
      · rw [if_pos hM, if_pos (Or.inr (hmk.2 hM))]
        omega
      · rw [if_neg hM, if_neg (by intro h; rcases h with h | h; · exact hc h
                                  · exact hM (hmk.1 h))]
        omega
where
  chain_quiet : ∀ (A M : List Int), A.length = M.length → digs A → flags M → num M = 0 → chainN (turnD A (0 :: M)) (passD A (0 :: M)) = 0
  | [], _, _, _, _, _ => by cases ‹List Int› <;> rfl
  | a :: A, [], h, _, _, _ => by simp at h
  | a :: A, m :: M, h, hd, hf, hz => by
    have ⟨⟨a0, a1⟩, hd2⟩ := digs_cons.1 hd
    have ⟨⟨m0, m1⟩, hf2⟩ := flags_cons.1 hf
    have hnb := (num_bd M (flags_digs hf2)).1
    simp only [num] at hz
    have hm : m = 0 := by omega
    subst hm
    show max (if (a + 0) / 10 = 1 then 1 + runN (turnD A (0 :: M)) else 0) (chainN (turnD A (0 :: M)) (passD A (0 :: M))) = 0
    rw [if_neg (by omega), chain_quiet A M (by simpa using h) hd2 hf2 (by omega)]
    rfl
theorem turn_up (A M : List Int) (h : A.length = M.length) : turnD A (upD M) = turnD A (0 :: M) ∧ passD A (upD M) = passD A (0 :: M) := by
  have key : ∀ (A B : List Int) (k : Nat), A.length ≤ k → turnD A (B.take k) = turnD A B ∧ passD A (B.take k) = passD A B := by
    intro A
    induction A with
    | nil => intro B k _; cases B <;> cases k <;> simp [turnD, passD]
    | cons a A ih =>
      intro B k hk
      cases k with
      | zero => simp at hk
      | succ k =>
        cases B with
        | nil => simp [turnD, passD]
        | cons b B =>
          have := ih B k (by simpa using hk)
          simp [turnD, passD, this.1, this.2]
  unfold upD
  exact key A (0 :: M) M.length (by omega)
theorem never_turn : ∀ (A B : List Int), digs A → digs B → neverN (turnD A B) (passD A B)
  | [], _, _, _ => by cases ‹List Int› <;> trivial
  | a :: A, [], _, _ => trivial
  | a :: A, b :: B, hA, hB => by
    have ⟨⟨a0, a1⟩, hA2⟩ := digs_cons.1 hA
    have ⟨⟨b0, b1⟩, hB2⟩ := digs_cons.1 hB
    exact ⟨fun h => by omega, never_turn A B hA2 hB2⟩
theorem allD_chain (n : Nat) (f : Nat) : ∀ (k : Nat) (A M : List Int), A.length = n → M.length = n → digs A → flags M → neverN A M → lowZ k M → k + f = n → (allD f A M).2 = chainN A M := by
  induction f with
  | zero =>
    intro k A M hA hM dA dM hn hz hk
    have hz0 : num M = 0 := lowZ_num M (by rw [hM, ← hk]; exact hz)
    have h := chain_step A M 0 (by omega) (by omega) (by omega) dA dM hn
    rw [if_neg (by decide), if_neg (by intro h; rcases h with h | h; · cases h
                                       · exact h hz0)] at h
    show 0 = _
    omega
  | succ f ih =>
    intro k A M hA hM dA dM hn hz hk
    have h := chain_step A M 0 (by omega) (by omega) (by omega) dA dM hn
    rw [if_neg (by decide)] at h
    by_cases h0 : num M = 0
    · rw [allD_stop _ _ _ h0]
      rw [if_neg (by intro h; rcases h with h | h; · cases h
                     · exact h h0)] at h
      show 0 = _
      omega
    · rw [if_pos (Or.inr h0)] at h
      have ul : (upD M).length = n := by rw [upD_length, hM]
      have ud : digs (upD M) := upD_digs M (flags_digs dM)
      rw [allD_go _ _ _ h0]
      show (allD f (turnD A (upD M)) (passD A (upD M))).2 + 1 = _
      rw [ih (k + 1) _ _ (by rw [turnD_length _ _ (by omega), hA]) (by rw [passD_length _ _ (by omega), hA]) (turnD_digs _ _) (passD_flags _ _ dA ud) (never_turn _ _ dA ud) (lowZ_pass k A M dA (by omega) hz) (by omega)]
      have ⟨t1, t2⟩ := turn_up A M (by omega)
      rw [t1, t2]
      omega
end Go.Proofs.YtckmnclpediliaaDoor
