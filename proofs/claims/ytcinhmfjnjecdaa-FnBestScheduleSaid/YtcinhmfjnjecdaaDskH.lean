/-
  Mathematics of all schedules: one after the other, and the best one. No conditions.
-/
import Derived.Test.YtcinhmfjnjecdaaDskG
namespace Go.Proofs.Ytcinhmfjnjecdaa
set_option maxRecDepth 4000
open Go.RowKit
/-- All schedules of r times for m engines, in order. -/
def allS (m : Nat) : Nat → List (List Int)
  | 0 => [[]]
  | r + 1 => (List.range m).flatMap fun (e : Nat) => (allS m r).map ((e : Int) :: ·)
/-- The next schedule in order. -/
def nxtS (m : Nat) : List Int → Option (List Int)
  | [] => none
  | g :: G => match nxtS m G with
    | some H => some (g :: H)
    | none => if g + 1 < (m : Int) then some ((g + 1) :: List.replicate G.length 0) else none
theorem search_all (T : List Int) (m r : Nat) (pre : List Int) (s : Int × List Int) : searchF T m r pre s = (allS m r).foldl (fun s q => keepB T (pre ++ q) s) s := by
  induction r generalizing pre s with
  | zero => simp [searchF, allS]
  | succ r ih =>
    unfold searchF allS
    rw [List.foldl_flatMap]
    congr 1
    funext s e
    rw [ih, List.foldl_map]
    congr 1
    funext s q
    rw [List.append_assoc]; rfl
theorem next_none (m : Nat) (B : List Int) (h : ∀ b ∈ B, ¬ b + 1 < (m : Int)) : nxtS m B = none := by
  induction B with
  | nil => rfl
  | cons b B ih =>
    rw [nxtS, ih (fun x hx => h x (List.mem_cons_of_mem _ hx))]
    show (if b + 1 < (m : Int) then _ else none) = none
    rw [if_neg (h b List.mem_cons_self)]
theorem next_at (m : Nat) (A : List Int) (x : Int) (B : List Int) (hx : x + 1 < (m : Int)) (h : ∀ b ∈ B, ¬ b + 1 < (m : Int)) : nxtS m (A ++ x :: B) = some (A ++ (x + 1) :: List.replicate B.length 0) := by
  induction A with
  | nil =>
    rw [List.nil_append, nxtS, next_none m B h]
    show (if x + 1 < (m : Int) then _ else none) = _
    rw [if_pos hx]; rfl
  | cons a A ih => rw [List.cons_append, nxtS, ih]; rfl
/-- Each one is the next of the one before it, and the last one has none. -/
def Chain (m : Nat) : List (List Int) → Prop
  | [] => False
  | [x] => nxtS m x = none
  | x :: y :: l => nxtS m x = some y ∧ Chain m (y :: l)
theorem chain_append (m : Nat) (A : List (List Int)) (y : List Int) (l : List (List Int)) (hA : A ≠ []) (hn : ∀ x, A.getLast? = some x → nxtS m x = some y) (hc : ∀ i x z, A[i]? = some x → A[i + 1]? = some z → nxtS m x = some z) (h : Chain m (y :: l)) : Chain m (A ++ y :: l) := by
  induction A with
  | nil => exact absurd rfl hA
  | cons a A ih =>
    cases A with
    | nil => exact ⟨hn a rfl, h⟩
    | cons b A =>
      refine ⟨hc 0 a b rfl rfl, ih (by simp) (fun x hx => hn x (by rw [List.getLast?_cons_cons]; exact hx)) (fun i x z h1 h2 => hc (i + 1) x z h1 h2)⟩
theorem chain_steps (m : Nat) (A : List (List Int)) (h : Chain m A) : (∀ i x z, A[i]? = some x → A[i + 1]? = some z → nxtS m x = some z) ∧ ∀ x, A.getLast? = some x → nxtS m x = none := by
  induction A with
  | nil => exact absurd h id
  | cons a A ih =>
    cases A with
    | nil =>
      refine ⟨fun i x z h1 h2 => by simp at h2, fun x hx => ?_⟩
      simp at hx
      subst hx; exact h
    | cons b A =>
      have ⟨h1, h2⟩ := ih h.2
      refine ⟨fun i x z e1 e2 => ?_, fun x hx => h2 x (by rw [List.getLast?_cons_cons] at hx; exact hx)⟩
      cases i with
      | zero => injection e1 with e1; injection e2 with e2; subst e1 e2; exact h.1
      | succ i => exact h1 i x z e1 e2
theorem chain_last (m : Nat) (A : List (List Int)) (hA : A ≠ []) (hn : ∀ x, A.getLast? = some x → nxtS m x = none) (hc : ∀ i x z, A[i]? = some x → A[i + 1]? = some z → nxtS m x = some z) : Chain m A := by
  induction A with
  | nil => exact absurd rfl hA
  | cons a A ih =>
    cases A with
    | nil => exact hn a rfl
    | cons b A => exact ⟨hc 0 a b rfl rfl, ih (by simp) (fun x hx => hn x (by rw [List.getLast?_cons_cons]; exact hx)) (fun i x z h1 h2 => hc (i + 1) x z h1 h2)⟩
theorem allS_mem (m r : Nat) (q : List Int) (h : q ∈ allS m r) : q.length = r ∧ ∀ g ∈ q, 0 ≤ g ∧ g < (m : Int) := by
  induction r generalizing q with
  | zero =>
    simp [allS] at h
    subst h; simp
  | succ r ih =>
    rw [allS, List.mem_flatMap] at h
    obtain ⟨e, he, hq⟩ := h
    obtain ⟨p, hp, rfl⟩ := List.mem_map.1 hq
    have ⟨h1, h2⟩ := ih p hp
    have := List.mem_range.1 he
    refine ⟨by simp [h1], fun g hg => ?_⟩
    rcases List.mem_cons.1 hg with rfl | hg
    · omega
    · exact h2 g hg
/-- The blocks of all schedules that begin with one of k engines from e on. -/
def blocks (m r : Nat) : Nat → Nat → List (List Int)
  | _, 0 => []
  | e, k + 1 => (allS m r).map ((e : Int) :: ·) ++ blocks m r (e + 1) k
theorem blocks_all (m r e k : Nat) : blocks m r e k = (List.range' e k).flatMap fun (e : Nat) => (allS m r).map ((e : Int) :: ·) := by
  induction k generalizing e with
  | zero => rfl
  | succ k ih => rw [blocks, ih, List.range'_succ, List.flatMap_cons]
theorem allS_blocks (m r : Nat) : allS m (r + 1) = blocks m r 0 m := by
  rw [blocks_all, allS, List.range_eq_range']
theorem allS_head (m r : Nat) (hm : 0 < m) : ∃ l, allS m r = List.replicate r 0 :: l := by
  induction r with
  | zero => exact ⟨[], rfl⟩
  | succ r ih =>
    obtain ⟨l, hl⟩ := ih
    obtain ⟨k, rfl⟩ : ∃ k, m = k + 1 := ⟨m - 1, by omega⟩
    rw [allS_blocks, blocks, hl]
    exact ⟨_, by rw [List.map_cons, List.cons_append]; rfl⟩
theorem allS_len (m r : Nat) : ∀ q, q ∈ allS m r → q.length = r := fun q h => (allS_mem m r q h).1
theorem chain_all (m r : Nat) (hm : 0 < m) : Chain m (allS m r) := by
  induction r with
  | zero => exact rfl
  | succ r ih =>
    have ⟨s1, s2⟩ := chain_steps m _ ih
    obtain ⟨l, hl⟩ := allS_head m r hm
    rw [allS_blocks]
    have key : ∀ k e, e + (k + 1) = m → Chain m (blocks m r e (k + 1)) := by
      intro k
      induction k with
      | zero =>
        intro e he
        rw [blocks, blocks, List.append_nil]
        refine chain_last m _ (by rw [hl]; simp) (fun x hx => ?_) (fun i x z h1 h2 => ?_)
        · rw [List.getLast?_map] at hx
          obtain ⟨p, hp, rfl⟩ := Option.map_eq_some_iff.1 hx
          rw [nxtS, s2 p hp]
          show (if (e : Int) + 1 < (m : Int) then _ else none) = none
          rw [if_neg (by omega)]
        · rw [List.getElem?_map] at h1 h2
          obtain ⟨p, hp, rfl⟩ := Option.map_eq_some_iff.1 h1
          obtain ⟨p2, hp2, rfl⟩ := Option.map_eq_some_iff.1 h2
          rw [nxtS, s1 i p p2 hp hp2]
      | succ k ihk =>
        intro e he
        have hc := ihk (e + 1) (by omega)
        have hh : ∃ l2, blocks m r (e + 1) (k + 1) = (((e + 1 : Nat) : Int) :: List.replicate r 0) :: l2 := by
          rw [blocks, hl]; exact ⟨_, by rw [List.map_cons, List.cons_append]⟩
        obtain ⟨l2, hl2⟩ := hh
        rw [blocks]
        rw [hl2] at hc ⊢
        refine chain_append m _ _ l2 (by rw [hl]; simp) (fun x hx => ?_) (fun i x z h1 h2 => ?_) hc
        · rw [List.getLast?_map] at hx
          obtain ⟨p, hp, rfl⟩ := Option.map_eq_some_iff.1 hx
          have hpl := allS_len m r p (List.mem_of_getLast? hp)
          rw [nxtS, s2 p hp]
          show (if (e : Int) + 1 < (m : Int) then _ else none) = _
          rw [if_pos (by omega), hpl]
          congr 2
        · rw [List.getElem?_map] at h1 h2
          obtain ⟨p, hp, rfl⟩ := Option.map_eq_some_iff.1 h1
          obtain ⟨p2, hp2, rfl⟩ := Option.map_eq_some_iff.1 h2
          rw [nxtS, s1 i p p2 hp hp2]
    obtain ⟨k, rfl⟩ : ∃ k, m = k + 1 := ⟨m - 1, by omega⟩
    exact key k 0 (by omega)
/-- The best schedule of times and its span. -/
def bestP (T : List Int) (m : Nat) : Int × List Int := searchF T m T.length [] (8001, [])
def bestA (T : List Int) (n : Int) : List Int := if timesOk T && nEngOk n then (bestP T n.toNat).2 else []
def leastA (T : List Int) (n : Int) : Int := if timesOk T && nEngOk n then mostL (loadsL T (bestP T n.toNat).2 n.toNat) else -1
/-- What the model keeps of two schedules. -/
def keepM (T : List Int) (m : Nat) (s : Int × List Int) (G : List Int) : Int × List Int := if mostL (loadsL T G m) < s.1 then (mostL (loadsL T G m), G) else s
theorem keep_keep (T G : List Int) (m : Nat) (hm : m ≤ 3) (h : ∀ g ∈ G, 0 ≤ g ∧ g < (m : Int)) (s : Int × List Int) : keepB T G s = keepM T m s G := by
  unfold keepB keepM
  rw [most_wider T G m (fun j g hg => (h g (List.mem_of_getElem? hg)).2) 3 hm]
theorem foldl_keep (T : List Int) (m : Nat) (hm : m ≤ 3) (A : List (List Int)) (hA : ∀ q ∈ A, ∀ g ∈ q, 0 ≤ g ∧ g < (m : Int)) (s : Int × List Int) : A.foldl (fun s q => keepB T ([] ++ q) s) s = A.foldl (keepM T m) s := by
  induction A generalizing s with
  | nil => rfl
  | cons a A ih =>
    rw [List.foldl_cons, List.foldl_cons, List.nil_append, keep_keep T a m hm (hA a List.mem_cons_self) s]
    exact ih (fun q hq => hA q (List.mem_cons_of_mem _ hq)) _
theorem best_all (T : List Int) (m : Nat) (hm : m ≤ 3) : bestP T m = (allS m T.length).foldl (keepM T m) (8001, []) := by
  unfold bestP
  rw [search_all, foldl_keep T m hm _ (fun q hq => (allS_mem m _ q hq).2)]
theorem best_start (T : List Int) (m : Nat) (hm0 : 0 < m) (hm : m ≤ 3) (hT : timesOk T = true) : ∃ l, allS m T.length = List.replicate T.length 0 :: l ∧ bestP T m = l.foldl (keepM T m) (mostL (loadsL T (List.replicate T.length 0) m), List.replicate T.length 0) := by
  obtain ⟨l, hl⟩ := allS_head m T.length hm0
  refine ⟨l, hl, ?_⟩
  rw [best_all T m hm, hl, List.foldl_cons]
  congr 1
  unfold keepM
  rw [if_pos (by have := (most_bd T (List.replicate T.length 0) m hT).2; show _ < (8001 : Int); omega)]
end Go.Proofs.Ytcinhmfjnjecdaa
