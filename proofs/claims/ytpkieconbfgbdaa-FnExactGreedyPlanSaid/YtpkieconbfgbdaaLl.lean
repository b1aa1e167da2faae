/-
  Rows of rows of numbers in memory, and the laws' own functions on them: equality, marks and whether they still stand. Condition: at most 1000 rows of at most 1000 numbers.
-/
import Derived.Test.YtpkieconbfgbdaaSl
import Derived.Deep.RegionWith
namespace Go.Proofs.Ytpkieconbfgbdaa
set_option maxRecDepth 4000
open Go.RowKit
/-- Block b holds rows, each in a block of its own. -/
def LRow (w : World) (b : Nat) (f : Nat → Nat) (zss : List (List Int)) : Prop :=
  ∀ (j : Nat) zs, zss[j]? = some zs → ∃ a cap, w.cell? ⟨b, j, none⟩ = some (.slice a zs.length cap) ∧ w.frozen? ⟨b, j, none⟩ = false ∧ f j ≠ b ∧ f j < w.heap.size ∧ Row w (f j) (f j + 1) (.slice a zs.length cap) zs
/-- The slice v is a row of rows of its own. -/
def RowL (w : World) (lo hi : Nat) (v : Value) (zss : List (List Int)) : Prop :=
  (zss = [] ∧ ∃ a cap, v = .slice a 0 cap ∧ cap ≤ maxLen) ∨
  ∃ (b cap : Nat) (f : Nat → Nat), v = .slice (some ⟨b, 0, none⟩) zss.length cap ∧ 0 < zss.length ∧ zss.length ≤ cap ∧ cap ≤ maxLen ∧ lo ≤ b ∧ b < hi ∧ b < w.heap.size ∧ (∀ j, j < zss.length → lo ≤ f j ∧ f j < hi) ∧ (∀ i j, i < zss.length → j < zss.length → f i = f j → i = j) ∧ LRow w b f zss
theorem LRow.apart {w w' : World} {b lo hi : Nat} {f : Nat → Nat} {zss : List (List Int)} (H : LRow w b f zss) (hb : b < w.heap.size) (hA : Apart lo hi w w') (h1 : b < lo ∨ hi ≤ b) (h2 : ∀ j, j < zss.length → f j < lo ∨ hi ≤ f j) : LRow w' b f zss := by
  intro j zs hj
  obtain ⟨a, cap, hc, hf, hne, hlt, hr⟩ := H j zs hj
  have hjl := (List.getElem?_eq_some_iff.1 hj).1
  have hk := hA.block b hb h1
  have h2j := h2 j hjl
  exact ⟨a, cap, by rw [World.cell?_of_block (w := w) hk]; exact hc, by rw [World.frozen?_of_block (w := w) hk]; exact hf, hne, Nat.lt_of_lt_of_le hlt hA.size, hr.apart hA (by omega)⟩
theorem LRow.below {w w' : World} {b : Nat} {f : Nat → Nat} {zss : List (List Int)} (H : LRow w b f zss) (hb : b < w.heap.size) (hA : Below w.heap.size w w') : LRow w' b f zss :=
  H.apart (lo := 0) (hi := 0) hb (Apart.of_below hA) (Or.inr (Nat.zero_le _)) (fun _ _ => Or.inr (Nat.zero_le _))
theorem RowL.apart {w w' : World} {lo hi l h : Nat} {v : Value} {zss : List (List Int)} (H : RowL w l h v zss) (hA : Apart lo hi w w') (hd : h ≤ lo ∨ hi ≤ l) : RowL w' l h v zss := by
  rcases H with H | ⟨b, cap, f, hv, h0, h1, h2, h3, h4, h5, h6, h7, h8⟩
  · exact Or.inl H
  · exact Or.inr ⟨b, cap, f, hv, h0, h1, h2, h3, h4, Nat.lt_of_lt_of_le h5 hA.size, h6, h7, h8.apart h5 hA (by omega) (fun j hj => by have := h6 j hj; omega)⟩
theorem RowL.below {w w' : World} {l h : Nat} {v : Value} {zss : List (List Int)} (H : RowL w l h v zss) (hb : Below w.heap.size w w') : RowL w' l h v zss := H.apart (lo := h) (hi := h) (Apart.of_below hb) (Or.inl (Nat.le_refl _))
theorem RowL.mono {w : World} {l h l' h' : Nat} {v : Value} {zss : List (List Int)} (H : RowL w l h v zss) (hl : l' ≤ l) (hh : h ≤ h') : RowL w l' h' v zss := by
  rcases H with H | ⟨b, cap, f, hv, h0, h1, h2, h3, h4, h5, h6, h7, h8⟩
  · exact Or.inl H
  · exact Or.inr ⟨b, cap, f, hv, h0, h1, h2, by omega, by omega, h5, fun j hj => by have := h6 j hj; omega, h7, h8⟩
/-- How many numbers rows have. -/
def sumL (zss : List (List Int)) : Nat := (zss.map List.length).sum
theorem sumL_take (zss : List (List Int)) (k : Nat) (zs : List Int) (h : zss[k]? = some zs) : sumL (zss.take (k + 1)) = sumL (zss.take k) + zs.length := by
  rw [List.take_add_one, h]
  simp [sumL]
theorem sumL_le (zss : List (List Int)) (m : Nat) (h : ∀ zs ∈ zss, zs.length ≤ m) : sumL zss ≤ zss.length * m := by
  induction zss with
  | nil => simp [sumL]
  | cons z r ih =>
    have h1 := ih (fun x hx => h x (List.mem_cons_of_mem _ hx))
    have h2 := h z List.mem_cons_self
    simp only [sumL, List.map_cons, List.sum_cons, List.length_cons, Nat.add_mul, Nat.one_mul] at h1 ⊢
    omega
/-- Rows that are marked one after the other from k on. -/
def upL (k : Int) : List (List Int) → List (List Int)
  | [] => []
  | z :: r => upFrom k z.length :: upL (k + z.length) r
theorem upL_length (zss : List (List Int)) : ∀ k, (upL k zss).length = zss.length := by
  induction zss with
  | nil => intro k; rfl
  | cons z r ih => intro k; simp [upL, ih]
theorem upL_get (zss : List (List Int)) : ∀ (k : Int) (j : Nat) zs, zss[j]? = some zs → (upL k zss)[j]? = some (upFrom (k + sumL (zss.take j)) zs.length) := by
  induction zss with
  | nil => intro k j zs h; simp at h
  | cons z r ih =>
    intro k j zs h
    cases j with
    | zero =>
      simp at h
      subst h
      simp [upL, sumL]
    | succ j =>
      have := ih (k + z.length) j zs (by simpa using h)
      simp only [upL, List.getElem?_cons_succ, this, List.take_succ_cons]
      congr 2
      simp only [sumL, List.map_cons, List.sum_cons]
      omega
/-- The first rows of a list replaced. -/
def overL (T zss : List (List Int)) (k : Nat) : List (List Int) := T.take k ++ zss.drop k
theorem overL_set (T zss : List (List Int)) (k : Nat) (x : List Int) (hl : T.length = zss.length) (h : T[k]? = some x) : (overL T zss k).set k x = overL T zss (k + 1) := by
  have hk := (List.getElem?_eq_some_iff.1 h).1
  have hl2 : (T.take k).length = k := by simp; omega
  unfold overL
  rw [List.set_append_right _ _ (by omega), hl2, Nat.sub_self, List.drop_eq_getElem_cons (by omega), List.set_cons_zero, List.take_add_one, h]
  simp
theorem overL_get (T zss : List (List Int)) (k : Nat) (hl : T.length = zss.length) (h : k < zss.length) : (overL T zss k)[k]? = zss[k]? := by
  unfold overL
  rw [List.getElem?_append_right (by simp; omega), List.length_take, Nat.min_eq_left (by omega), Nat.sub_self, List.getElem?_drop, Nat.add_zero]
theorem overL_all (T zss : List (List Int)) (hl : T.length = zss.length) : overL T zss zss.length = T := by
  unfold overL
  rw [List.drop_length, List.append_nil, List.take_of_length_le (by omega)]
theorem overL_zero (T zss : List (List Int)) : overL T zss 0 = zss := by simp [overL]
theorem overL_len (T zss : List (List Int)) (k : Nat) (hl : T.length = zss.length) (h : k ≤ zss.length) : (overL T zss k).length = zss.length := by simp [overL]; omega
/-- A row is written in its place. -/
theorem LRow.step {w w' : World} {b : Nat} {f : Nat → Nat} {zss : List (List Int)} {j : Nat} {zs ys : List Int} {a : Option Addr} {cap : Nat} (H : LRow w b f zss) (hb : b < w.heap.size) (hinj : ∀ i j, i < zss.length → j < zss.length → f i = f j → i = j) (hj : zss[j]? = some zs)
    (hcell : w.cell? ⟨b, j, none⟩ = some (.slice a zs.length cap)) (hlen : ys.length = zs.length) (hR : Row w' (f j) (f j + 1) (.slice a zs.length cap) ys) (hA : Apart (f j) (f j + 1) w w') : LRow w' b f (zss.set j ys) := by
  intro i xs hi
  have hjl := (List.getElem?_eq_some_iff.1 hj).1
  rw [List.getElem?_set] at hi
  by_cases e : j = i
  · subst e
    rw [if_pos rfl, if_pos hjl] at hi
    injection hi with hi
    subst hi
    obtain ⟨a1, c1, hc, hf, hne, hlt, hr⟩ := H j zs hj
    rw [hcell] at hc
    injection hc with hc
    injection hc with e1 e2 e3
    subst e1
    subst e3
    have hk := hA.block b hb (by omega)
    exact ⟨a, cap, by rw [World.cell?_of_block (w := w) hk, hlen]; exact hcell, by rw [World.frozen?_of_block (w := w) hk]; exact hf, hne, Nat.lt_of_lt_of_le hlt hA.size, by rw [hlen]; exact hR⟩
  · rw [if_neg e] at hi
    have hil := (List.getElem?_eq_some_iff.1 hi).1
    obtain ⟨a1, c1, hc, hf, hne, hlt, hr⟩ := H i xs hi
    obtain ⟨_, _, _, _, hnej, _, _⟩ := H j zs hj
    have hk := hA.block b hb (by omega)
    have hfi : f i ≠ f j := fun h => e (hinj j i hjl hil h.symm)
    exact ⟨a1, c1, by rw [World.cell?_of_block (w := w) hk]; exact hc, by rw [World.frozen?_of_block (w := w) hk]; exact hf, hne, Nat.lt_of_lt_of_le hlt hA.size, hr.apart hA (by omega)⟩
/-- A call that marks rows from k on. -/
def MarksL (v : Value) (lo hi n : Nat) (T : List (List Int)) (k : Int) (w : World) (e : Ending) (w' : World) : Prop := e = .returned (.int .i64 (k + n)) ∧ RowL w' lo hi v T ∧ Apart lo hi w w'
end Go.Proofs.Ytpkieconbfgbdaa
