/-
  Turning columns forth and back, as lists: what a turn back undoes, and what is set up askew. No conditions.
-/
import Derived.Test.YtffmhcahiabicaaDoorMath
namespace Go.Proofs.YtffmhcahiabicaaDoor
set_option linter.unusedVariables false
section
variable {α : Type}
/-- Each element with the next one, as this stands behind. -/
def backL (f : α → α → α) : List α → List α
  | [] => []
  | c :: r => (match (backL f r).head? with | none => c | some d => f c d) :: backL f r
/-- Each element with the next one, as this stood before. -/
def forthL (f : α → α → α) : List α → List α
  | [] => []
  | c :: r => (match r.head? with | none => c | some d => f c d) :: forthL f r
theorem backL_length (f : α → α → α) : ∀ l : List α, (backL f l).length = l.length
  | [] => rfl
  | c :: r => by simp [backL, backL_length f r]
theorem forthL_length (f : α → α → α) : ∀ l : List α, (forthL f l).length = l.length
  | [] => rfl
  | c :: r => by simp [forthL, forthL_length f r]
theorem backL_drop (f : α → α → α) : ∀ (k : Nat) (l : List α), (backL f l).drop k = backL f (l.drop k)
  | 0, l => by simp
  | k + 1, [] => by simp [backL]
  | k + 1, c :: r => by simp [backL, backL_drop f k r]
theorem forthL_drop (f : α → α → α) : ∀ (k : Nat) (l : List α), (forthL f l).drop k = forthL f (l.drop k)
  | 0, l => by simp
  | k + 1, [] => by simp [forthL]
  | k + 1, c :: r => by simp [forthL, forthL_drop f k r]
theorem backL_at (f : α → α → α) (l : List α) (k : Nat) : (backL f l)[k]? = ((backL f (l.drop k))).head? := by
  rw [← backL_drop, List.head?_drop]
theorem backL_last (f : α → α → α) (l : List α) (k : Nat) (h : k + 1 = l.length) : (backL f l)[k]? = l[k]? := by
  rw [backL_at]
  have hk : k < l.length := by omega
  rw [List.drop_eq_getElem_cons hk, List.drop_of_length_le (by omega)]
  simp [backL, hk]
theorem backL_inner (f : α → α → α) (l : List α) (k : Nat) (c d : α) (hc : l[k]? = some c) (hd : (backL f l)[k + 1]? = some d) : (backL f l)[k]? = some (f c d) := by
  have hk := (List.getElem?_eq_some_iff.1 hc).1
  rw [backL_at] at hd
  rw [backL_at, List.drop_eq_getElem_cons hk]
  have e : l[k] = c := (List.getElem?_eq_some_iff.1 hc).2
  simp [backL, hd, e]
theorem forthL_last (f : α → α → α) (l : List α) (k : Nat) (h : k + 1 = l.length) : (forthL f l)[k]? = l[k]? := by
  have e : (forthL f l)[k]? = (forthL f (l.drop k)).head? := by rw [← forthL_drop, List.head?_drop]
  have hk : k < l.length := by omega
  rw [e, List.drop_eq_getElem_cons hk, List.drop_of_length_le (by omega)]
  simp [forthL, hk]
theorem forthL_inner (f : α → α → α) (l : List α) (k : Nat) (c d : α) (hc : l[k]? = some c) (hd : l[k + 1]? = some d) : (forthL f l)[k]? = some (f c d) := by
  have e : (forthL f l)[k]? = (forthL f (l.drop k)).head? := by rw [← forthL_drop, List.head?_drop]
  have hk := (List.getElem?_eq_some_iff.1 hc).1
  have ec : l[k] = c := (List.getElem?_eq_some_iff.1 hc).2
  rw [e, List.drop_eq_getElem_cons hk]
  simp [forthL, hd, ec]
/-- n times. -/
def turnsL (g : List α → List α) : Nat → List α → List α
  | 0, l => l
  | n + 1, l => g (turnsL g n l)
theorem turnsL_length (g : List α → List α) (hg : ∀ l, (g l).length = l.length) (l : List α) : ∀ n, (turnsL g n l).length = l.length
  | 0 => rfl
  | n + 1 => by rw [turnsL, hg, turnsL_length g hg l n]
theorem turnsL_first (g : List α → List α) (l : List α) : ∀ n, turnsL g n (g l) = turnsL g (n + 1) l
  | 0 => rfl
  | n + 1 => by rw [turnsL, turnsL_first g l n]; rfl
theorem turnsL_add (g : List α → List α) (l : List α) (m : Nat) : ∀ n, turnsL g n (turnsL g m l) = turnsL g (n + m) l
  | 0 => by rw [Nat.zero_add]; rfl
  | n + 1 => by rw [turnsL, turnsL_add g l m n, show n + 1 + m = (n + m) + 1 by omega]; rfl
/-- From an index on, turned back. -/
def tailBack (f : α → α → α) (k : Nat) (l : List α) : List α := l.take k ++ backL f (l.drop k)
theorem tailBack_length (f : α → α → α) (k : Nat) (l : List α) : (tailBack f k l).length = l.length := by
  simp [tailBack, backL_length]; omega
theorem backL_one (f : α → α → α) (c : α) : backL f [c] = [c] := rfl
theorem tailBack_last (f : α → α → α) (k : Nat) (l : List α) (h : l.length ≤ k + 1) : tailBack f k l = l := by
  unfold tailBack
  by_cases hk : k < l.length
  · have e : l.drop k = [l[k]] := by rw [List.drop_eq_getElem_cons hk, List.drop_of_length_le (by omega)]
    rw [e, backL_one, ← e, List.take_append_drop]
  · rw [List.drop_of_length_le (by omega), List.take_of_length_le (by omega)]
    simp [backL]
theorem tailBack_low (f : α → α → α) (k i : Nat) (l : List α) (h : i < k) : (tailBack f k l)[i]? = l[i]? := by
  unfold tailBack
  by_cases hi : i < l.length
  · rw [List.getElem?_append_left (by rw [List.length_take]; omega), List.getElem?_take, if_pos h]
  · rw [List.getElem?_eq_none (by rw [List.length_append, List.length_take, backL_length, List.length_drop]; omega), List.getElem?_eq_none (by omega)]
theorem tailBack_high (f : α → α → α) (k i : Nat) (l : List α) (h : k ≤ i) : (tailBack f k l)[i]? = (backL f l)[i]? := by
  unfold tailBack
  rw [← backL_drop]
  by_cases hk : k ≤ l.length
  · have hl : (l.take k).length = k := by rw [List.length_take]; omega
    rw [List.getElem?_append_right (by omega), hl, List.getElem?_drop, show k + (i - k) = i by omega]
  · rw [List.getElem?_eq_none (by rw [List.length_append, List.length_take, List.length_drop, backL_length]; omega), List.getElem?_eq_none (by rw [backL_length]; omega)]
theorem tailBack_step (f : α → α → α) (k : Nat) (l : List α) (c d : α) (hc : l[k]? = some c) (hd : (backL f l)[k + 1]? = some d) : (tailBack f (k + 1) l).set k (f c d) = tailBack f k l := by
  apply List.ext_getElem?
  intro i
  have hk := (List.getElem?_eq_some_iff.1 hc).1
  rw [List.getElem?_set]
  by_cases e : k = i
  · subst e
    rw [if_pos rfl, if_pos (by rw [tailBack_length]; exact hk), tailBack_high f k k l (Nat.le_refl _), backL_inner f l k c d hc hd]
  · rw [if_neg e]
    by_cases hi : i < k
    · rw [tailBack_low f (k + 1) i l (by omega), tailBack_low f k i l hi]
    · rw [tailBack_high f (k + 1) i l (by omega), tailBack_high f k i l (by omega)]
theorem tailBack_zero (f : α → α → α) (l : List α) : tailBack f 0 l = backL f l := by simp [tailBack]
theorem backL_all (f : α → α → α) (P : α → Prop) (hf : ∀ c d, P c → P d → P (f c d)) : ∀ l : List α, (∀ z ∈ l, P z) → ∀ z ∈ backL f l, P z
  | [], _, z, hz => by simp [backL] at hz
  | c :: r, h, z, hz => by
    have ih := backL_all f P hf r (fun y hy => h y (by simp [hy]))
    simp only [backL, List.mem_cons] at hz
    rcases hz with hz | hz
    · cases hh : (backL f r).head? with
      | none => rw [hh] at hz; rw [hz]; exact h c (by simp)
      | some d => rw [hh] at hz; rw [hz]; exact hf c d (h c (by simp)) (ih d (List.mem_of_mem_head? hh))
    · exact ih z hz
theorem forthL_all (f : α → α → α) (P : α → Prop) (hf : ∀ c d, P c → P d → P (f c d)) : ∀ l : List α, (∀ z ∈ l, P z) → ∀ z ∈ forthL f l, P z
  | [], _, z, hz => by simp [forthL] at hz
  | c :: r, h, z, hz => by
    have ih := forthL_all f P hf r (fun y hy => h y (by simp [hy]))
    simp only [forthL, List.mem_cons] at hz
    rcases hz with hz | hz
    · cases hh : r.head? with
      | none => rw [hh] at hz; rw [hz]; exact h c (by simp)
      | some d => rw [hh] at hz; rw [hz]; exact hf c d (h c (by simp)) (h d (by simp [List.mem_of_mem_head? hh]))
    · exact ih z hz
theorem tailBack_all (f : α → α → α) (P : α → Prop) (hf : ∀ c d, P c → P d → P (f c d)) (k : Nat) (l : List α) (h : ∀ z ∈ l, P z) : ∀ z ∈ tailBack f k l, P z := by
  intro z hz
  unfold tailBack at hz
  rcases List.mem_append.1 hz with hz | hz
  · exact h z (List.mem_of_mem_take hz)
  · exact backL_all f P hf _ (fun y hy => h y (List.mem_of_mem_drop hy)) z hz
theorem turnsL_all (g : List α → List α) (P : α → Prop) (hg : ∀ l, (∀ z ∈ l, P z) → ∀ z ∈ g l, P z) (l : List α) (h : ∀ z ∈ l, P z) : ∀ n, ∀ z ∈ turnsL g n l, P z
  | 0 => h
  | n + 1 => hg _ (turnsL_all g P hg l h n)
/-- Turned back from 2 on, from 4 on, and so on, m times. -/
def askewN (f : α → α → α) (l : List α) : Nat → List α
  | 0 => l
  | m + 1 => tailBack f (2 * m + 2) (askewN f l m)
theorem askewN_length (f : α → α → α) (l : List α) : ∀ m, (askewN f l m).length = l.length
  | 0 => rfl
  | m + 1 => by rw [askewN, tailBack_length, askewN_length f l m]
theorem take_at (l : List α) (k i : Nat) (h : i < k) : (l.take k)[i]? = l[i]? := by rw [List.getElem?_take, if_pos h]
theorem askewN_at (f : α → α → α) (l : List α) : ∀ m i, (askewN f l m)[i]? = (turnsL (backL f) (min (i / 2) m) l)[i]?
  | 0, i => by rw [Nat.min_zero]; rfl
  | m + 1, i => by
    rw [askewN, tailBack]
    have hlen := askewN_length f l m
    by_cases h : i < 2 * m + 2
    · rw [show min (i / 2) (m + 1) = min (i / 2) m by omega, ← askewN_at f l m i]
      by_cases hi : i < l.length
      · rw [List.getElem?_append_left (by rw [List.length_take]; omega), take_at _ _ _ h]
      · rw [List.getElem?_eq_none (by rw [List.length_append, backL_length, List.length_take, List.length_drop]; omega), List.getElem?_eq_none (by omega)]
    · have e : (askewN f l m).drop (2 * m + 2) = (turnsL (backL f) m l).drop (2 * m + 2) := by
        apply List.ext_getElem?
        intro j
        rw [List.getElem?_drop, List.getElem?_drop, askewN_at f l m, show min ((2 * m + 2 + j) / 2) m = m by omega]
      rw [e, ← backL_drop, show min (i / 2) (m + 1) = m + 1 by omega]
      by_cases hi : 2 * m + 2 ≤ l.length
      · have hl : ((askewN f l m).take (2 * m + 2)).length = 2 * m + 2 := by rw [List.length_take]; omega
        rw [List.getElem?_append_right (by omega), hl, List.getElem?_drop, show 2 * m + 2 + (i - (2 * m + 2)) = i by omega]
        rfl
      · rw [List.getElem?_eq_none (by rw [List.length_append, List.length_take, List.length_drop, backL_length, turnsL_length _ (backL_length f)]; omega),
          List.getElem?_eq_none (by rw [turnsL_length _ (backL_length f)]; omega)]
theorem askewN_all (f : α → α → α) (P : α → Prop) (hf : ∀ c d, P c → P d → P (f c d)) (l : List α) (h : ∀ z ∈ l, P z) : ∀ m, ∀ z ∈ askewN f l m, P z
  | 0 => h
  | m + 1 => tailBack_all f P hf _ _ (askewN_all f P hf l h m)
/-- Element i turned back i / 2 times. -/
def askewL (f : α → α → α) (l : List α) : List α := askewN f l l.length
theorem askewL_at (f : α → α → α) (l : List α) (i : Nat) (h : i < l.length) : (askewL f l)[i]? = (turnsL (backL f) (i / 2) l)[i]? := by
  rw [askewL, askewN_at, show min (i / 2) l.length = i / 2 by omega]
theorem askewL_length (f : α → α → α) (l : List α) : (askewL f l).length = l.length := askewN_length f l _
theorem askewN_full (f : α → α → α) (l : List α) (m : Nat) (h : l.length ≤ 2 * m + 2) : askewN f l m = askewL f l := by
  apply List.ext_getElem?
  intro i
  by_cases hi : i < l.length
  · rw [askewN_at, askewL_at f l i hi, show min (i / 2) m = i / 2 by omega]
  · rw [List.getElem?_eq_none (by rw [askewN_length]; omega), List.getElem?_eq_none (by rw [askewL_length]; omega)]
end
end Go.Proofs.YtffmhcahiabicaaDoor
