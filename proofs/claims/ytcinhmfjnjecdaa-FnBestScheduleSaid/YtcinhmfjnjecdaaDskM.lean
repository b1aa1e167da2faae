/-
  Mathematics of schedules: loads, spans, and the schedule that gives each time to the engine that is free first. No conditions.
-/
import Derived.Test.YtcinhmfjnjecdaaSl
namespace Go.Proofs.Ytcinhmfjnjecdaa
set_option maxRecDepth 4000
open Go.RowKit
/-- What one engine has of a schedule of times. -/
def loadE : List Int → List Int → Int → Int
  | t :: T, g :: G, e => (if g = e then t else 0) + loadE T G e
  | _, _, _ => 0
/-- The loads of the first m engines. -/
def loadsL (T G : List Int) (m : Nat) : List Int := (List.range m).map fun (e : Nat) => loadE T G (e : Int)
/-- The greatest of some numbers, at least 0. -/
def mostL (l : List Int) : Int := l.foldl max 0
def timeOk (x : Int) : Bool := decide ((0 : Int) ≤ x ∧ x ≤ 1000)
def timesOk (T : List Int) : Bool := decide (T.length ≤ 8) && T.all timeOk
def nEngOk (n : Int) : Bool := decide ((1 : Int) ≤ n ∧ n ≤ 3)
def givOk (G : List Int) (n : Int) : Bool := G.all fun g => decide ((0 : Int) ≤ g ∧ g ≤ n - 1)
/-- What SpanOf answers. -/
def spanA (T G : List Int) (n : Int) : Int := if timesOk T && nEngOk n && decide (G.length = T.length) && givOk G n then mostL (loadsL T G n.toNat) else -1
theorem timesOk_parts {T : List Int} (h : timesOk T = true) : T.length ≤ 8 ∧ ∀ (j : Nat) (x : Int), T[j]? = some x → 0 ≤ x ∧ x ≤ 1000 := by
  rw [timesOk, Bool.and_eq_true] at h
  refine ⟨of_decide_eq_true h.1, fun j x hj => ?_⟩
  have := List.all_eq_true.1 h.2 x (List.mem_of_getElem? hj)
  exact of_decide_eq_true this
theorem timesOk_of {T : List Int} (h1 : T.length ≤ 8) (h : ∀ (j : Nat) (x : Int), T[j]? = some x → timeOk x = true) : timesOk T = true := by
  rw [timesOk, Bool.and_eq_true]
  refine ⟨decide_eq_true h1, List.all_eq_true.2 fun x hx => ?_⟩
  obtain ⟨j, hj⟩ := List.getElem?_of_mem hx
  exact h j x hj
theorem timesOk_no {T : List Int} (j : Nat) (x : Int) (hj : T[j]? = some x) (h : timeOk x = false) : timesOk T = false := by
  cases e : timesOk T
  · rfl
  · rw [timesOk, Bool.and_eq_true] at e
    rw [List.all_eq_true.1 e.2 x (List.mem_of_getElem? hj)] at h
    cases h
theorem givOk_no {G : List Int} (n : Int) (j : Nat) (x : Int) (hj : G[j]? = some x) (h : ¬ (0 ≤ x ∧ x ≤ n - 1)) : givOk G n = false := by
  cases e : givOk G n
  · rfl
  · exact absurd (of_decide_eq_true (List.all_eq_true.1 e x (List.mem_of_getElem? hj))) h
theorem givOk_of {G : List Int} {n : Int} (h : ∀ (j : Nat) (x : Int), G[j]? = some x → 0 ≤ x ∧ x ≤ n - 1) : givOk G n = true := by
  refine List.all_eq_true.2 fun x hx => ?_
  obtain ⟨j, hj⟩ := List.getElem?_of_mem hx
  exact decide_eq_true (h j x hj)
theorem givOk_at {G : List Int} {n : Int} (h : givOk G n = true) (j : Nat) (x : Int) (hj : G[j]? = some x) : 0 ≤ x ∧ x ≤ n - 1 := of_decide_eq_true (List.all_eq_true.1 h x (List.mem_of_getElem? hj))
theorem loadE_nilG (T : List Int) (e : Int) : loadE T [] e = 0 := by cases T <;> rfl
theorem loadE_append (T G : List Int) (t g e : Int) (h : T.length = G.length) : loadE (T ++ [t]) (G ++ [g]) e = loadE T G e + (if g = e then t else 0) := by
  induction T generalizing G with
  | nil =>
    obtain rfl : G = [] := List.eq_nil_of_length_eq_zero h.symm
    simp [loadE]
  | cons a T ih =>
    cases G with
    | nil => simp at h
    | cons b G =>
      simp only [List.cons_append, loadE]
      rw [ih G (by simpa using h)]
      omega
theorem take_next (L : List Int) (k : Nat) (x : Int) (h : L[k]? = some x) : L.take (k + 1) = L.take k ++ [x] := by rw [List.take_add_one, h]; rfl
theorem loadE_next (T G : List Int) (k : Nat) (t g e : Int) (hT : T[k]? = some t) (hG : G[k]? = some g) : loadE (T.take (k + 1)) (G.take (k + 1)) e = loadE (T.take k) (G.take k) e + (if g = e then t else 0) := by
  have a := (List.getElem?_eq_some_iff.1 hT).1
  have b := (List.getElem?_eq_some_iff.1 hG).1
  rw [take_next T k t hT, take_next G k g hG, loadE_append _ _ _ _ _ (by simp; omega)]
theorem loadsL_length (T G : List Int) (m : Nat) : (loadsL T G m).length = m := by simp [loadsL]
theorem loadsL_get (T G : List Int) (m e : Nat) (h : e < m) : (loadsL T G m)[e]? = some (loadE T G (e : Int)) := by
  unfold loadsL; rw [List.getElem?_map, List.getElem?_range h]; rfl
theorem loadsL_next (T G : List Int) (k m n : Nat) (t : Int) (hT : T[k]? = some t) (hG : G[k]? = some (n : Int)) : loadsL (T.take (k + 1)) (G.take (k + 1)) m = (loadsL (T.take k) (G.take k) m).set n (loadE (T.take k) (G.take k) (n : Int) + t) := by
  apply List.ext_getElem?
  intro j
  rw [List.getElem?_set, loadsL_length]
  by_cases hj : j < m
  · rw [loadsL_get _ _ _ _ hj, loadE_next T G k t n j hT hG]
    by_cases e : n = j
    · subst e; rw [if_pos rfl, if_pos rfl, if_pos hj]
    · rw [if_neg e, if_neg (by omega), loadsL_get _ _ _ _ hj, Int.add_zero]
  · have a : (loadsL (T.take (k + 1)) (G.take (k + 1)) m)[j]? = none := List.getElem?_eq_none (by rw [loadsL_length]; omega)
    have b : (loadsL (T.take k) (G.take k) m)[j]? = none := List.getElem?_eq_none (by rw [loadsL_length]; omega)
    rw [a, b]
    by_cases e : n = j
    · rw [if_pos e, if_neg (by omega)]
    · rw [if_neg e]
theorem loadsL_zero (m : Nat) (T G : List Int) : loadsL (T.take 0) (G.take 0) m = List.replicate m 0 := by
  apply List.ext_getElem?
  intro j
  by_cases hj : j < m
  · rw [loadsL_get _ _ _ _ hj, List.getElem?_replicate, if_pos hj]; rfl
  · rw [List.getElem?_eq_none (by rw [loadsL_length]; omega), List.getElem?_replicate, if_neg hj]
theorem loadE_bd (T G : List Int) (e : Int) (h : ∀ (j : Nat) (x : Int), T[j]? = some x → 0 ≤ x ∧ x ≤ 1000) : 0 ≤ loadE T G e ∧ loadE T G e ≤ 1000 * (T.length : Int) := by
  induction T generalizing G with
  | nil => simp [loadE]
  | cons t T ih =>
    cases G with
    | nil => simp [loadE]; omega
    | cons g G =>
      have h0 := h 0 t rfl
      have := ih G (fun j x hj => h (j + 1) x hj)
      simp only [loadE, List.length_cons]
      split <;> omega
theorem load_bd {T G : List Int} (e : Int) (k : Nat) (h : timesOk T = true) : 0 ≤ loadE (T.take k) G e ∧ loadE (T.take k) G e ≤ 8000 := by
  obtain ⟨hl, hx⟩ := timesOk_parts h
  have := loadE_bd (T.take k) G e (fun j x hj => by
    rw [List.getElem?_take] at hj
    split at hj
    · exact hx j x hj
    · cases hj)
  have hk : (T.take k).length ≤ 8 := by rw [List.length_take]; omega
  omega
theorem loadE_off (T G : List Int) (e : Int) (h : ∀ (j : Nat) (g : Int), G[j]? = some g → g ≠ e) : loadE T G e = 0 := by
  induction T generalizing G with
  | nil => rfl
  | cons t T ih =>
    cases G with
    | nil => rfl
    | cons g G =>
      simp only [loadE]
      rw [if_neg (h 0 g rfl), ih G (fun j x hj => h (j + 1) x hj)]; rfl
theorem foldmax_ge (l : List Int) (a : Int) : a ≤ l.foldl max a := by
  induction l generalizing a with
  | nil => exact Int.le_refl _
  | cons x l ih => exact Int.le_trans (Int.le_max_left a x) (ih _)
theorem foldmax_mem (l : List Int) (a x : Int) (h : x ∈ l) : x ≤ l.foldl max a := by
  induction l generalizing a with
  | nil => cases h
  | cons y l ih =>
    rcases List.mem_cons.1 h with e | e
    · subst e; exact Int.le_trans (Int.le_max_right a _) (foldmax_ge l _)
    · exact ih _ e
theorem foldmax_le (l : List Int) (a b : Int) (h0 : a ≤ b) (h : ∀ x, x ∈ l → x ≤ b) : l.foldl max a ≤ b := by
  induction l generalizing a with
  | nil => exact h0
  | cons y l ih => exact ih _ (Int.max_le.2 ⟨h0, h y List.mem_cons_self⟩) (fun x hx => h x (List.mem_cons_of_mem _ hx))
theorem mostL_ge (l : List Int) : 0 ≤ mostL l := foldmax_ge l 0
theorem mostL_get (l : List Int) (j : Nat) (x : Int) (h : l[j]? = some x) : x ≤ mostL l := foldmax_mem l 0 x (List.mem_of_getElem? h)
theorem mostL_le (l : List Int) (b : Int) (h0 : 0 ≤ b) (h : ∀ (j : Nat) (x : Int), l[j]? = some x → x ≤ b) : mostL l ≤ b := foldmax_le l 0 b h0 (fun x hx => by
  obtain ⟨j, hj⟩ := List.getElem?_of_mem hx
  exact h j x hj)
theorem mostL_next (l : List Int) (k : Nat) (x : Int) (h : l[k]? = some x) : mostL (l.take (k + 1)) = max (mostL (l.take k)) x := by
  rw [take_next l k x h]; unfold mostL; rw [List.foldl_append]; rfl
/-- With more engines than a schedule uses the greatest load is the same. -/
theorem most_wider (T G : List Int) (m : Nat) (h : ∀ (j : Nat) (g : Int), G[j]? = some g → g < m) (n : Nat) (hn : m ≤ n) : mostL (loadsL T G n) = mostL (loadsL T G m) := by
  apply Int.le_antisymm
  · refine mostL_le _ _ (mostL_ge _) (fun j x hj => ?_)
    have hjn : j < n := by have := (List.getElem?_eq_some_iff.1 hj).1; rwa [loadsL_length] at this
    rw [loadsL_get _ _ _ _ hjn] at hj
    injection hj with hj
    by_cases c : j < m
    · exact mostL_get _ j _ (by rw [loadsL_get _ _ _ _ c, hj])
    · rw [← hj, loadE_off T G j (fun i g hg => by have := h i g hg; omega)]
      exact mostL_ge _
  · refine mostL_le _ _ (mostL_ge _) (fun j x hj => ?_)
    have hjn : j < m := by have := (List.getElem?_eq_some_iff.1 hj).1; rwa [loadsL_length] at this
    rw [loadsL_get _ _ _ _ hjn] at hj
    exact mostL_get _ j _ (by rw [loadsL_get _ _ _ _ (by omega), hj])
theorem most_bd (T G : List Int) (m : Nat) (h : timesOk T = true) : 0 ≤ mostL (loadsL T G m) ∧ mostL (loadsL T G m) ≤ 8000 := by
  refine ⟨mostL_ge _, mostL_le _ _ (by omega) (fun j x hj => ?_)⟩
  have hjn : j < m := by have := (List.getElem?_eq_some_iff.1 hj).1; rwa [loadsL_length] at this
  rw [loadsL_get _ _ _ _ hjn] at hj
  injection hj with hj
  have := load_bd (G := G) (j : Int) T.length h
  rw [List.take_length] at this
  omega
/-- The greatest of three numbers that are not negative. -/
theorem most_three (a b c : Int) (h : 0 ≤ a) : mostL [a, b, c] = max (max a b) c := by
  show max (max (max 0 a) b) c = _
  rw [Int.max_eq_right h]
/-- The number of the first one of the least numbers of a list. -/
def IsFree (l : List Int) (k : Nat) : Prop := ∃ x, l[k]? = some x ∧ (∀ (j : Nat) (y : Int), l[j]? = some y → x ≤ y) ∧ ∀ (j : Nat) (y : Int), j < k → l[j]? = some y → x < y
theorem IsFree.uniq {l : List Int} {a b : Nat} (h : IsFree l a) (k : IsFree l b) : a = b := by
  obtain ⟨x, hx, h1, h2⟩ := h
  obtain ⟨y, hy, k1, k2⟩ := k
  have p := h1 b y hy
  have q := k1 a x hx
  rcases Nat.lt_trichotomy a b with c | c | c
  · have := k2 a x c hx; omega
  · exact c
  · have := h2 b y c hy; omega
def freeI (l : List Int) : Nat := l.findIdx fun x => l.all fun y => decide (x ≤ y)
theorem exists_min (l : List Int) (h : 0 < l.length) : ∃ (k : Nat) (x : Int), l[k]? = some x ∧ ∀ (j : Nat) (y : Int), l[j]? = some y → x ≤ y := by
  induction l with
  | nil => simp at h
  | cons a l ih =>
    by_cases c : 0 < l.length
    · obtain ⟨k, x, hk, hm⟩ := ih c
      by_cases d : x ≤ a
      · refine ⟨k + 1, x, by simpa using hk, fun j y hj => ?_⟩
        cases j with
        | zero => simp at hj; omega
        | succ j => exact hm j y (by simpa using hj)
      · refine ⟨0, a, rfl, fun j y hj => ?_⟩
        cases j with
        | zero => simp at hj; omega
        | succ j => have := hm j y (by simpa using hj); omega
    · obtain rfl : l = [] := List.eq_nil_of_length_eq_zero (by omega)
      refine ⟨0, a, rfl, fun j y hj => ?_⟩
      cases j with
      | zero => simp at hj; omega
      | succ j => simp at hj
theorem freeI_is (l : List Int) (h : 0 < l.length) : IsFree l (freeI l) := by
  obtain ⟨k, x, hk, hm⟩ := exists_min l h
  have hp : (l.all fun y => decide (x ≤ y)) = true := List.all_eq_true.2 fun y hy => by
    obtain ⟨j, hj⟩ := List.getElem?_of_mem hy
    exact decide_eq_true (hm j y hj)
  have hlt : freeI l < l.length := List.findIdx_lt_length_of_exists ⟨x, List.mem_of_getElem? hk, hp⟩
  have hg := List.findIdx_getElem (w := hlt)
  have h0 : ∀ (j : Nat) (y : Int), l[j]? = some y → l[freeI l] ≤ y := fun j y hj => of_decide_eq_true (List.all_eq_true.1 hg y (List.mem_of_getElem? hj))
  refine ⟨l[freeI l], List.getElem?_eq_getElem hlt, h0, fun j y hj hy => ?_⟩
  have hle := h0 j y hy
  rcases Int.lt_or_eq_of_le hle with c | c
  · exact c
  · exfalso
    have hjl := (List.getElem?_eq_some_iff.1 hy).1
    have := List.not_of_lt_findIdx hj
    have hyy : l[j] = y := (List.getElem?_eq_some_iff.1 hy).2
    rw [hyy, ← c] at this
    have hg' : (l.all fun y => decide (l[freeI l] ≤ y)) = true := hg
    rw [hg'] at this
    cases this
theorem freeI_eq {l : List Int} {k : Nat} (h : IsFree l k) : freeI l = k := (freeI_is l (by obtain ⟨x, hx, _⟩ := h; have := (List.getElem?_eq_some_iff.1 hx).1; omega)).uniq h
theorem freeI_lt (l : List Int) (h : 0 < l.length) : freeI l < l.length := by
  obtain ⟨x, hx, _⟩ := freeI_is l h
  exact (List.getElem?_eq_some_iff.1 hx).1
/-- The first k engines of the schedule that gives each time to the engine that is free first. -/
def greedyF (T : List Int) (m : Nat) : Nat → List Int
  | 0 => []
  | k + 1 => greedyF T m k ++ [(freeI (loadsL (T.take k) (greedyF T m k) m) : Int)]
def greedyA (T : List Int) (n : Int) : List Int := if timesOk T && nEngOk n then greedyF T n.toNat T.length else []
theorem greedyF_length (T : List Int) (m k : Nat) : (greedyF T m k).length = k := by
  induction k with
  | zero => rfl
  | succ k ih => simp [greedyF, ih]
theorem greedyF_take (T : List Int) (m n k : Nat) (h : k ≤ n) : (greedyF T m n).take k = greedyF T m k := by
  induction n with
  | zero => obtain rfl : k = 0 := by omega
            rfl
  | succ n ih =>
    by_cases c : k = n + 1
    · rw [c]; exact List.take_of_length_le (by rw [greedyF_length]; exact Nat.le_refl _)
    · rw [greedyF, List.take_append_of_le_length (by rw [greedyF_length]; omega)]
      exact ih (by omega)
theorem greedyF_get (T : List Int) (m n k : Nat) (h : k < n) : (greedyF T m n)[k]? = some (freeI (loadsL (T.take k) (greedyF T m k) m) : Int) := by
  have : ((greedyF T m n).take (k + 1))[k]? = some (freeI (loadsL (T.take k) (greedyF T m k) m) : Int) := by
    rw [greedyF_take T m n (k + 1) (by omega), greedyF, List.getElem?_append_right (by rw [greedyF_length]; exact Nat.le_refl _), greedyF_length, Nat.sub_self]; rfl
  rwa [List.getElem?_take, if_pos (by omega)] at this
theorem greedyF_in (T : List Int) (m n j : Nat) (g : Int) (hm : 0 < m) (h : (greedyF T m n)[j]? = some g) : 0 ≤ g ∧ g < m := by
  have hj := (List.getElem?_eq_some_iff.1 h).1
  rw [greedyF_length] at hj
  rw [greedyF_get T m n j hj] at h
  injection h with h
  have := freeI_lt (loadsL (T.take j) (greedyF T m j) m) (by rw [loadsL_length]; exact hm)
  rw [loadsL_length] at this
  omega
theorem loadE_cut (T G : List Int) (e : Int) : loadE (T.take G.length) G e = loadE T G e := by
  induction T generalizing G with
  | nil => simp [loadE]
  | cons t T ih =>
    cases G with
    | nil => simp [loadE_nilG]
    | cons g G => simp only [List.length_cons, List.take_succ_cons, loadE]; rw [ih]
theorem loadsL_cut (T G : List Int) (m : Nat) : loadsL (T.take G.length) G m = loadsL T G m := by
  unfold loadsL
  congr 1; funext e
  exact loadE_cut T G e
end Go.Proofs.Ytcinhmfjnjecdaa
