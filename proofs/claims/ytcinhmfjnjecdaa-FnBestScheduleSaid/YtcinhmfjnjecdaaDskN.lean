/-
  Mathematics of least spans and of the schedule by the engine that is free first. No conditions.
-/
import Derived.Test.YtcinhmfjnjecdaaDskK
namespace Go.Proofs.Ytcinhmfjnjecdaa
set_option maxRecDepth 4000
open Go.RowKit
theorem allS_all (m r : Nat) (q : List Int) (h : q.length = r) (hq : ∀ g ∈ q, 0 ≤ g ∧ g < (m : Int)) : q ∈ allS m r := by
  induction r generalizing q with
  | zero =>
    obtain rfl := List.eq_nil_of_length_eq_zero h
    exact List.mem_cons_self
  | succ r ih =>
    cases q with
    | nil => simp at h
    | cons g q =>
      have ⟨g0, g1⟩ := hq g List.mem_cons_self
      rw [allS, List.mem_flatMap]
      refine ⟨g.toNat, List.mem_range.2 (by omega), List.mem_map.2 ⟨q, ih q (by simpa using h) (fun x hx => hq x (List.mem_cons_of_mem _ hx)), ?_⟩⟩
      rw [Int.toNat_of_nonneg g0]
theorem keepM_le (T : List Int) (m : Nat) (s : Int × List Int) (q : List Int) : (keepM T m s q).1 ≤ s.1 ∧ (keepM T m s q).1 ≤ mostL (loadsL T q m) := by
  unfold keepM
  split <;> simp <;> omega
theorem foldl_keep_le (T : List Int) (m : Nat) (A : List (List Int)) (s : Int × List Int) : (A.foldl (keepM T m) s).1 ≤ s.1 ∧ ∀ q ∈ A, (A.foldl (keepM T m) s).1 ≤ mostL (loadsL T q m) := by
  induction A generalizing s with
  | nil => exact ⟨Int.le_refl _, fun q h => by cases h⟩
  | cons a A ih =>
    rw [List.foldl_cons]
    have ⟨h1, h2⟩ := ih (keepM T m s a)
    have ⟨k1, k2⟩ := keepM_le T m s a
    refine ⟨by omega, fun q hq => ?_⟩
    rcases List.mem_cons.1 hq with e | e
    · rw [e]; omega
    · exact h2 q e
theorem keepM_is (T : List Int) (m : Nat) (s : Int × List Int) (q : List Int) (h : s.1 = mostL (loadsL T s.2 m)) : (keepM T m s q).1 = mostL (loadsL T (keepM T m s q).2 m) := by
  unfold keepM
  split
  · rfl
  · exact h
theorem foldl_keep_is (T : List Int) (m : Nat) (A : List (List Int)) (s : Int × List Int) (h : s.1 = mostL (loadsL T s.2 m)) : (A.foldl (keepM T m) s).1 = mostL (loadsL T (A.foldl (keepM T m) s).2 m) := by
  induction A generalizing s with
  | nil => exact h
  | cons a A ih => exact ih _ (keepM_is T m s a h)
/-- A schedule. -/
def IsS (T G : List Int) (m : Nat) : Prop := G.length = T.length ∧ ∀ g ∈ G, 0 ≤ g ∧ g < (m : Int)
theorem best_min (T : List Int) (m : Nat) (hm0 : 0 < m) (hm : m ≤ 3) (hT : timesOk T = true) (G : List Int) (hG : IsS T G m) : mostL (loadsL T (bestP T m).2 m) ≤ mostL (loadsL T G m) := by
  obtain ⟨l, hl, hb⟩ := best_start T m hm0 hm hT
  have hmem := allS_all m T.length G hG.1 hG.2
  rw [hl] at hmem
  have h1 := foldl_keep_is T m l (mostL (loadsL T (List.replicate T.length 0) m), List.replicate T.length 0) rfl
  have ⟨h2, h3⟩ := foldl_keep_le T m l (mostL (loadsL T (List.replicate T.length 0) m), List.replicate T.length 0)
  rw [hb, ← h1]
  rcases List.mem_cons.1 hmem with e | e
  · rw [e]; exact h2
  · exact h3 G e
theorem isS_best (T : List Int) (m : Nat) (hm0 : 0 < m) (hm : m ≤ 3) (hT : timesOk T = true) : IsS T (bestP T m).2 m := best_is T m hm0 hm hT
/-- The sum of all times. -/
def sumT : List Int → Int
  | [] => 0
  | t :: T => t + sumT T
theorem sumT_append (A : List Int) (x : Int) : sumT (A ++ [x]) = sumT A + x := by
  induction A with
  | nil => simp [sumT]
  | cons a A ih => rw [List.cons_append, sumT, sumT, ih]; omega
theorem sumT_next (T : List Int) (k : Nat) (x : Int) (h : T[k]? = some x) : sumT (T.take (k + 1)) = sumT (T.take k) + x := by rw [take_next T k x h, sumT_append]
theorem load_sum1 (T G : List Int) (hl : G.length = T.length) (h : ∀ g ∈ G, 0 ≤ g ∧ g < ((1 : Nat) : Int)) : loadE T G 0 = sumT T := by
  induction T generalizing G with
  | nil => rfl
  | cons t T ih =>
    cases G with
    | nil => simp at hl
    | cons g G =>
      have := h g List.mem_cons_self
      have e := ih G (by simpa using hl) (fun x hx => h x (List.mem_cons_of_mem _ hx))
      obtain rfl : g = 0 := by omega
      simp only [loadE, sumT, if_pos]; omega
theorem load_sum2 (T G : List Int) (hl : G.length = T.length) (h : ∀ g ∈ G, 0 ≤ g ∧ g < ((2 : Nat) : Int)) : loadE T G 0 + loadE T G 1 = sumT T := by
  induction T generalizing G with
  | nil => rfl
  | cons t T ih =>
    cases G with
    | nil => simp at hl
    | cons g G =>
      have := h g List.mem_cons_self
      have e := ih G (by simpa using hl) (fun x hx => h x (List.mem_cons_of_mem _ hx))
      simp only [loadE, sumT]
      rcases (show g = 0 ∨ g = 1 by omega) with rfl | rfl
      · rw [if_pos rfl, if_neg (by decide)]; omega
      · rw [if_neg (by decide), if_pos rfl]; omega
theorem load_sum3 (T G : List Int) (hl : G.length = T.length) (h : ∀ g ∈ G, 0 ≤ g ∧ g < ((3 : Nat) : Int)) : loadE T G 0 + loadE T G 1 + loadE T G 2 = sumT T := by
  induction T generalizing G with
  | nil => rfl
  | cons t T ih =>
    cases G with
    | nil => simp at hl
    | cons g G =>
      have := h g List.mem_cons_self
      have e := ih G (by simpa using hl) (fun x hx => h x (List.mem_cons_of_mem _ hx))
      simp only [loadE, sumT]
      rcases (show g = 0 ∨ g = 1 ∨ g = 2 by omega) with rfl | rfl | rfl
      · rw [if_pos rfl, if_neg (by decide), if_neg (by decide)]; omega
      · rw [if_neg (by decide), if_pos rfl, if_neg (by decide)]; omega
      · rw [if_neg (by decide), if_neg (by decide), if_pos rfl]; omega
theorem load_pos (T G : List Int) (e : Int) (h : ∀ (j : Nat) (x : Int), T[j]? = some x → 0 ≤ x ∧ x ≤ 1000) : 0 ≤ loadE T G e := (loadE_bd T G e h).1
theorem mostL_load (T G : List Int) (m e : Nat) (h : e < m) : loadE T G (e : Int) ≤ mostL (loadsL T G m) := mostL_get _ e _ (loadsL_get _ _ _ _ h)
/-- The average is at most the greatest load, and this at most the sum. -/
theorem most_sum (T G : List Int) (m : Nat) (hm0 : 0 < m) (hm : m ≤ 3) (hT : ∀ (j : Nat) (x : Int), T[j]? = some x → 0 ≤ x ∧ x ≤ 1000) (hG : IsS T G m) : sumT T ≤ mostL (loadsL T G m) * (m : Int) ∧ mostL (loadsL T G m) ≤ sumT T := by
  have p0 := load_pos T G 0 hT
  have p1 := load_pos T G 1 hT
  have p2 := load_pos T G 2 hT
  have hs : mostL (loadsL T G m) ≤ sumT T ↔ (0 ≤ sumT T ∧ ∀ e : Nat, e < m → loadE T G (e : Int) ≤ sumT T) := by
    constructor
    · intro h
      exact ⟨Int.le_trans (mostL_ge _) h, fun e he => Int.le_trans (mostL_load T G m e he) h⟩
    · intro ⟨h0, h⟩
      refine mostL_le _ _ h0 (fun j x hj => ?_)
      have hjn : j < m := by have := (List.getElem?_eq_some_iff.1 hj).1; rwa [loadsL_length] at this
      rw [loadsL_get _ _ _ _ hjn] at hj
      injection hj with hj
      rw [← hj]; exact h j hjn
  rw [hs]
  rcases (show m = 1 ∨ m = 2 ∨ m = 3 by omega) with rfl | rfl | rfl
  · have s := load_sum1 T G hG.1 hG.2
    have q0 := mostL_load T G 1 0 (by omega)
    refine ⟨by simp at q0 ⊢; omega, by omega, fun e he => ?_⟩
    obtain rfl : e = 0 := by omega
    simp; omega
  · have s := load_sum2 T G hG.1 hG.2
    have q0 := mostL_load T G 2 0 (by omega)
    have q1 := mostL_load T G 2 1 (by omega)
    refine ⟨by simp at q0 q1 ⊢; omega, by omega, fun e he => ?_⟩
    rcases (show e = 0 ∨ e = 1 by omega) with rfl | rfl <;> simp <;> omega
  · have s := load_sum3 T G hG.1 hG.2
    have q0 := mostL_load T G 3 0 (by omega)
    have q1 := mostL_load T G 3 1 (by omega)
    have q2 := mostL_load T G 3 2 (by omega)
    refine ⟨by simp at q0 q1 q2 ⊢; omega, by omega, fun e he => ?_⟩
    rcases (show e = 0 ∨ e = 1 ∨ e = 2 by omega) with rfl | rfl | rfl <;> simp <;> omega
theorem load_time (T G : List Int) (hT : ∀ (j : Nat) (x : Int), T[j]? = some x → 0 ≤ x ∧ x ≤ 1000) (k : Nat) (t g : Int) (h : T[k]? = some t) (hg : G[k]? = some g) : t ≤ loadE T G g := by
  induction T generalizing G k with
  | nil => simp at h
  | cons a T ih =>
    cases G with
    | nil => simp at hg
    | cons b G =>
      have hp := load_pos T G g (fun j x hj => hT (j + 1) x hj)
      have ha := hT 0 a rfl
      cases k with
      | zero =>
        injection h with h; injection hg with hg
        subst h hg
        simp only [loadE, if_pos]; omega
      | succ k =>
        have := ih G (fun j x hj => hT (j + 1) x hj) k h hg
        simp only [loadE]
        split <;> omega
/-- The span is at least the longest time. -/
theorem most_time (T G : List Int) (m : Nat) (hT : ∀ (j : Nat) (x : Int), T[j]? = some x → 0 ≤ x ∧ x ≤ 1000) (hG : IsS T G m) : mostL T ≤ mostL (loadsL T G m) := by
  refine mostL_le _ _ (mostL_ge _) (fun j t hj => ?_)
  have hjl := (List.getElem?_eq_some_iff.1 hj).1
  obtain ⟨g, hg⟩ := get_lt G j (by rw [hG.1]; exact hjl)
  have ⟨g0, g1⟩ := hG.2 g (List.mem_of_getElem? hg)
  have h1 := load_time T G hT j t g hj hg
  have h2 := mostL_load T G m g.toNat (by omega)
  rw [Int.toNat_of_nonneg g0] at h2
  omega
theorem take_times {T : List Int} (hT : ∀ (j : Nat) (x : Int), T[j]? = some x → 0 ≤ x ∧ x ≤ 1000) (k : Nat) : ∀ (j : Nat) (x : Int), (T.take k)[j]? = some x → 0 ≤ x ∧ x ≤ 1000 := fun j x hj => by
  rw [List.getElem?_take] at hj
  split at hj
  · exact hT j x hj
  · cases hj
theorem isS_greedy (T : List Int) (m k : Nat) (hm0 : 0 < m) (hk : k ≤ T.length) : IsS (T.take k) (greedyF T m k) m := by
  refine ⟨by rw [greedyF_length, List.length_take]; omega, fun g hg => ?_⟩
  obtain ⟨j, hj⟩ := List.getElem?_of_mem hg
  exact greedyF_in T m k j g hm0 hj
/-- What giving each time to the engine that is free first leaves on each engine. -/
theorem greedy_bd (T : List Int) (m : Nat) (hm0 : 0 < m) (hm : m ≤ 3) (hT : ∀ (j : Nat) (x : Int), T[j]? = some x → 0 ≤ x ∧ x ≤ 1000) (k : Nat) (hk : k ≤ T.length) : ∀ e : Nat, e < m → loadE (T.take k) (greedyF T m k) (e : Int) * (m : Int) ≤ sumT (T.take k) + ((m : Int) - 1) * mostL T := by
  induction k with
  | zero =>
    intro e he
    have := mostL_ge T
    have h0 : loadE (T.take 0) (greedyF T m 0) (e : Int) = 0 := rfl
    have hs : sumT (T.take 0) = 0 := rfl
    rw [h0, hs, Int.zero_mul]
    rcases (show m = 1 ∨ m = 2 ∨ m = 3 by omega) with rfl | rfl | rfl <;> simp <;> omega
  | succ k ih =>
    intro e he
    obtain ⟨t, ht⟩ := get_lt T k (by omega)
    have ⟨t0, _⟩ := hT k t ht
    have htm := mostL_get T k t ht
    have hF := freeI_is (loadsL (T.take k) (greedyF T m k) m) (by rw [loadsL_length]; exact hm0)
    have hlt := freeI_lt (loadsL (T.take k) (greedyF T m k) m) (by rw [loadsL_length]; exact hm0)
    rw [loadsL_length] at hlt
    have hg : greedyF T m (k + 1) = greedyF T m k ++ [(freeI (loadsL (T.take k) (greedyF T m k) m) : Int)] := rfl
    generalize hf : freeI (loadsL (T.take k) (greedyF T m k) m) = f at *
    have hS := isS_greedy T m k hm0 (by omega)
    have hT' := take_times hT k
    rw [hg, take_next T k t ht, loadE_append _ _ _ _ _ (by rw [hS.1]), sumT_append]
    obtain ⟨x, hx, h1, _⟩ := hF
    rw [loadsL_get _ _ _ _ hlt] at hx
    injection hx with hx
    have hmin : ∀ j : Nat, j < m → loadE (T.take k) (greedyF T m k) (f : Int) ≤ loadE (T.take k) (greedyF T m k) (j : Int) := fun j hj => by
      rw [hx]; exact h1 j _ (loadsL_get _ _ _ _ hj)
    have ihe := ih (by omega) e he
    by_cases c : f = e
    · subst c
      rw [if_pos rfl]
      rcases (show m = 1 ∨ m = 2 ∨ m = 3 by omega) with rfl | rfl | rfl
      · have s := load_sum1 _ _ hS.1 hS.2
        have a0 := hmin 0 (by omega)
        simp at a0 ⊢; omega
      · have s := load_sum2 _ _ hS.1 hS.2
        have a0 := hmin 0 (by omega)
        have a1 := hmin 1 (by omega)
        simp at a0 a1 ⊢; omega
      · have s := load_sum3 _ _ hS.1 hS.2
        have a0 := hmin 0 (by omega)
        have a1 := hmin 1 (by omega)
        have a2 := hmin 2 (by omega)
        simp at a0 a1 a2 ⊢; omega
    · rw [if_neg (by omega), Int.add_zero]
      omega
theorem most_mul (l : List Int) (m : Nat) (hm0 : 0 < m) (hm : m ≤ 3) (b : Int) (h0 : 0 ≤ b) (h : ∀ (j : Nat) (x : Int), l[j]? = some x → x * (m : Int) ≤ b) : mostL l * (m : Int) ≤ b := by
  rcases (show m = 1 ∨ m = 2 ∨ m = 3 by omega) with rfl | rfl | rfl
  · have := mostL_le l b (by omega) (fun j x hj => by have := h j x hj; simp at this; omega)
    simp; omega
  · have := mostL_le l (b / 2) (by omega) (fun j x hj => by have := h j x hj; simp at this; omega)
    simp; omega
  · have := mostL_le l (b / 3) (by omega) (fun j x hj => by have := h j x hj; simp at this; omega)
    simp; omega
theorem greedy_span (T : List Int) (m : Nat) (hm0 : 0 < m) (hm : m ≤ 3) (hT : ∀ (j : Nat) (x : Int), T[j]? = some x → 0 ≤ x ∧ x ≤ 1000) : mostL (loadsL T (greedyF T m T.length) m) * (m : Int) ≤ sumT T + ((m : Int) - 1) * mostL T := by
  have h := greedy_bd T m hm0 hm hT T.length (Nat.le_refl _)
  rw [List.take_length] at h
  refine most_mul _ m hm0 hm _ ?_ (fun j x hj => ?_)
  · have := h 0 hm0
    have p := load_pos T (greedyF T m T.length) 0 hT
    have := Int.mul_nonneg p (show (0 : Int) ≤ (m : Int) by omega)
    simp at *; omega
  · have hjn : j < m := by have := (List.getElem?_eq_some_iff.1 hj).1; rwa [loadsL_length] at this
    rw [loadsL_get _ _ _ _ hjn] at hj
    injection hj with hj
    rw [← hj]; exact h j hjn
theorem loadE_rev (T G : List Int) (e : Int) (h : G.length = T.length) : loadE T.reverse G.reverse e = loadE T G e := by
  induction T generalizing G with
  | nil => rfl
  | cons t T ih =>
    cases G with
    | nil => simp at h
    | cons g G =>
      rw [List.reverse_cons, List.reverse_cons, loadE_append _ _ _ _ _ (by simp at h ⊢; omega), ih G (by simpa using h)]
      simp only [loadE]; omega
theorem loadsL_rev (T G : List Int) (m : Nat) (h : G.length = T.length) : loadsL T.reverse G.reverse m = loadsL T G m := by
  unfold loadsL
  congr 1; funext e
  exact loadE_rev T G e h
theorem isS_rev (T G : List Int) (m : Nat) (h : IsS T G m) : IsS T.reverse G.reverse m := ⟨by simp [h.1], fun g hg => h.2 g (List.mem_reverse.1 hg)⟩
theorem times_rev (T : List Int) (h : timesOk T = true) : timesOk T.reverse = true := by
  have ⟨h1, h2⟩ := timesOk_parts h
  refine timesOk_of (by simpa using h1) (fun j x hj => ?_)
  have := List.mem_reverse.1 (List.mem_of_getElem? hj)
  obtain ⟨i, hi⟩ := List.getElem?_of_mem this
  exact decide_eq_true (h2 i x hi)
/-- The least span does not depend on the order. -/
theorem best_rev (T : List Int) (m : Nat) (hm0 : 0 < m) (hm : m ≤ 3) (hT : timesOk T = true) : mostL (loadsL T.reverse (bestP T.reverse m).2 m) = mostL (loadsL T (bestP T m).2 m) := by
  have hT' := times_rev T hT
  have b1 := isS_best T m hm0 hm hT
  have b2 := isS_best T.reverse m hm0 hm hT'
  apply Int.le_antisymm
  · have := best_min T.reverse m hm0 hm hT' _ (isS_rev T _ m b1)
    rwa [loadsL_rev T _ m b1.1] at this
  · have h := isS_rev _ _ m b2
    rw [List.reverse_reverse] at h
    have := best_min T m hm0 hm hT _ h
    have e := loadsL_rev T.reverse _ m b2.1
    rw [List.reverse_reverse] at e
    rwa [e] at this
/-- With one engine more the least span is no greater. -/
theorem best_fewer (T : List Int) (m : Nat) (hm0 : 0 < m) (hm : m + 1 ≤ 3) (hT : timesOk T = true) : mostL (loadsL T (bestP T (m + 1)).2 (m + 1)) ≤ mostL (loadsL T (bestP T m).2 m) := by
  have b1 := isS_best T m hm0 (by omega) hT
  have h2 : IsS T (bestP T m).2 (m + 1) := ⟨b1.1, fun g hg => by have := b1.2 g hg; omega⟩
  have := best_min T (m + 1) (by omega) hm hT _ h2
  rwa [most_wider T _ m (fun j g hg => (b1.2 g (List.mem_of_getElem? hg)).2) (m + 1) (by omega)] at this
end Go.Proofs.Ytcinhmfjnjecdaa
