/-
  The mathematics of runs: how many entries of a table have a polynomial. No conditions but bounds of numbers.
-/
import Derived.Test.YtgnoclnenhmakaaErrA
import Derived.Test.YtgnoclnenhmakaaPolyAn
import Derived.Test.YtgnoclnenhmakaaErrE
namespace Go.Proofs.Ytgnoclnenhmakaa
set_option maxRecDepth 4000
open Go.RowKit
/-- A table of small entries. -/
def smallOk (zs : List Int) : Bool := listOk 60 1500 zs
theorem small_iff (zs : List Int) : smallOk zs = true ↔ 1 ≤ zs.length ∧ zs.length ≤ 60 ∧ ∀ x ∈ zs, -1500 ≤ x ∧ x ≤ 1500 := listOk_iff 60 1500 zs
theorem small_tab (zs : List Int) (h : smallOk zs = true) : tableOk zs = true := by
  obtain ⟨h1, h2, h3⟩ := (small_iff zs).1 h
  exact (listOk_iff 60 1000000000 zs).2 ⟨h1, h2, fun x hx => by have := h3 x hx; omega⟩
theorem small_take (zs : List Int) (h : smallOk zs = true) (n : Nat) (h1 : 1 ≤ n) : smallOk (zs.take n) = true := by
  obtain ⟨a, b, c⟩ := (small_iff zs).1 h
  exact (small_iff _).2 ⟨by rw [List.length_take]; omega, by rw [List.length_take]; omega, fun x hx => c x (List.mem_of_mem_take hx)⟩
theorem small_drop (zs : List Int) (h : smallOk zs = true) (n : Nat) (h1 : n < zs.length) : smallOk (zs.drop n) = true := by
  obtain ⟨a, b, c⟩ := (small_iff zs).1 h
  exact (small_iff _).2 ⟨by rw [List.length_drop]; omega, by rw [List.length_drop]; omega, fun x hx => c x (List.mem_of_mem_drop hx)⟩
/-- The entries have a run of the degree. -/
def runB (zs : List Int) (d : Int) : Bool := decide (leastL zs ≤ d) && interB zs
theorem small_poly (zs : List Int) (h : smallOk zs = true) (hl : leastL zs ≤ 6) : interB zs = true := by
  have ht := small_tab zs h
  have hg := least_ge zs
  have h0 := hg.2.2.1 ht
  have hio : interOk zs = true := by unfold interOk; exact decide_eq_true ⟨h0, hl⟩
  obtain ⟨_, hb1, hb2, _, _, hn1, hn2, hn3, hn4⟩ := inter_bd zs hio
  have hN : interN zs ≤ 7 := by
    by_cases hc : leastL zs + 1 ≤ 1
    · have := hn3 hc; omega
    · have := hn4 (by omega); omega
  unfold interB
  rw [hio, Bool.true_and]
  obtain ⟨_, _, hx⟩ := (small_iff zs).1 h
  refine (listOk_iff 7 100000 _).2 ⟨by rw [leadW_length]; exact hn1, by rw [leadW_length]; exact hN, fun x hm => ?_⟩
  obtain ⟨k, hk⟩ := List.mem_iff_getElem?.1 hm
  have hkl : k < interN zs := by have := (List.getElem?_eq_some_iff.1 hk).1; rwa [leadW_length] at this
  rw [leadW_get _ _ _ hkl] at hk
  have hp : 2 ^ k ≤ 2 ^ 6 := Nat.pow_le_pow_right (by omega) (by omega)
  have hbd := difN_bd zs 1500 (fun y hy => by have := hx y hy; omega) k (by omega)
  have hxe : (difN k zs).headD 0 = x := by simpa using hk
  rw [← hxe]
  cases hd : difN k zs with
  | nil => simp
  | cons y l =>
    have := hbd y (by rw [hd]; exact List.mem_cons_self)
    simp only [List.headD_cons]
    omega
theorem run_eq (zs : List Int) (d : Int) (h : smallOk zs = true) (hd : degOk d = true) : runB zs d = zeroOk (difN (d.toNat + 1) zs) := by
  have ht := small_tab zs h
  have hg := (least_ge zs).2.2.1 ht
  have e := cleanB_eq zs d
  unfold cleanB at e
  rw [ht, hd, Bool.true_and, Bool.true_and, Bool.true_and, show decide (-1 ≤ leastL zs) = true from decide_eq_true hg, Bool.true_and] at e
  rw [e]
  unfold runB
  by_cases hl : leastL zs ≤ d
  · have hd6 : d ≤ 6 := by unfold degOk at hd; have := of_decide_eq_true hd; omega
    rw [small_poly zs h (by omega), Bool.and_true]
  · rw [show decide (leastL zs ≤ d) = false from decide_eq_false hl, Bool.false_and]
/-! ### Differences of the first entries -/
theorem dif_take : ∀ (l : List Int) (c : Nat), dif (l.take (c + 1)) = (dif l).take c := by
  intro l
  induction l with
  | nil => intro c; simp [dif]
  | cons a l ih =>
    intro c
    cases l with
    | nil => cases c <;> simp [dif]
    | cons b l =>
      cases c with
      | zero => simp [dif]
      | succ c =>
        have := ih c
        rw [List.take_succ_cons] at this
        rw [List.take_succ_cons, List.take_succ_cons, dif, dif, this, List.take_succ_cons]
theorem difW_take (l : List Int) (c : Nat) : difW (l.take c) = (difW l).take (c - 1) := by
  cases c with
  | zero => simp [difW, dif]
  | succ c => rw [difW, dif_take, difW, List.map_take]; rfl
theorem difN_take (k : Nat) : ∀ (l : List Int) (c : Nat), difN k (l.take c) = (difN k l).take (c - k) := by
  induction k with
  | zero => intro l c; rfl
  | succ k ih => intro l c; rw [difN, difW_take, ih, difN, show c - 1 - k = c - (k + 1) by omega]
theorem zero_iff (row : List Int) : zeroOk row = true ↔ ∀ x ∈ row, x = 0 := by
  unfold zeroOk
  simp
theorem fnz_at (l : List Int) (h : fnz l < l.length) : ∃ z, l[fnz l]? = some z ∧ z ≠ 0 := by
  induction l with
  | nil => simp at h
  | cons x l ih =>
    rw [fnz] at h ⊢
    split at h
    · rename_i hx
      rw [if_pos hx]
      obtain ⟨z, h1, h2⟩ := ih (by simpa using h)
      exact ⟨z, by simpa using h1, h2⟩
    · rename_i hx
      rw [if_neg hx]
      exact ⟨x, rfl, hx⟩
theorem zero_take (row : List Int) (m : Nat) (hm : m ≤ row.length) : zeroOk (row.take m) = decide (m ≤ fnz row) := by
  by_cases h : m ≤ fnz row
  · rw [decide_eq_true h, zero_iff]
    intro x hx
    obtain ⟨j, hj⟩ := List.mem_iff_getElem?.1 hx
    rw [List.getElem?_take] at hj
    split at hj
    · exact fnz_low row j x (by omega) hj
    · cases hj
  · rw [decide_eq_false h]
    obtain ⟨z, h1, h2⟩ := fnz_at row (by omega)
    cases hz : zeroOk (row.take m)
    · rfl
    · exact absurd ((zero_iff _).1 hz z (List.mem_iff_getElem?.2 ⟨fnz row, by rw [List.getElem?_take, if_pos (by omega)]; exact h1⟩)) h2
/-- How many entries at the beginning have a polynomial with o differences at most. -/
def longN (o : Nat) (zs : List Int) : Nat := if zs.length ≤ o then zs.length else o + fnz (difN o zs)
theorem longN_le (o : Nat) (zs : List Int) : longN o zs ≤ zs.length := by
  unfold longN
  split
  · exact Nat.le_refl _
  · have := fnz_le (difN o zs); rw [difN_length] at this; omega
theorem longN_pos (o : Nat) (zs : List Int) (ho : 1 ≤ o) (h : 1 ≤ zs.length) : 1 ≤ longN o zs := by
  unfold longN
  split <;> omega
theorem long_run (o : Nat) (zs : List Int) (n : Nat) (hn : n ≤ zs.length) : zeroOk (difN o (zs.take n)) = decide (n ≤ longN o zs) := by
  rw [difN_take]
  unfold longN
  split
  · rename_i h
    rw [show difN o zs = [] from List.eq_nil_of_length_eq_zero (by rw [difN_length]; omega), List.take_nil, decide_eq_true hn]
    rfl
  · rename_i h
    rw [zero_take _ _ (by rw [difN_length]; omega)]
    by_cases hc : n ≤ o + fnz (difN o zs)
    · rw [decide_eq_true hc, decide_eq_true (by omega)]
    · rw [decide_eq_false hc, decide_eq_false (by omega)]
theorem run_long (zs : List Int) (d : Int) (h : smallOk zs = true) (hd : degOk d = true) (n : Nat) (h1 : 1 ≤ n) (hn : n ≤ zs.length) : runB (zs.take n) d = decide (n ≤ longN (d.toNat + 1) zs) := by
  rw [run_eq _ d (small_take zs h n h1) hd, long_run _ zs n hn]
end Go.Proofs.Ytgnoclnenhmakaa
