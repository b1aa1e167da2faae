/-
  DiffTable of the model: rows that are appended one after the other, and their copies. No conditions.
-/
import Derived.Test.YtpkieconbfgbdaaLlP
import Derived.Test.YtpkieconbfgbdaaPolyFa
import Derived.Deep.AppendLies
namespace Go.Proofs.Ytpkieconbfgbdaa
set_option maxRecDepth 4000
open Go.RowKit
theorem Row.grown {w w' : World} {lo hi : Nat} {v : Value} {zs : List Int} {row : Option Nat} (H : Row w lo hi v zs) (hg : w.grownBy w' row) (hr : ∀ g, row = some g → g < lo ∨ hi ≤ g) : Row w' lo hi v zs := by
  obtain ⟨a, cap, h1, h2, h3, h4, h5⟩ := H
  refine ⟨a, cap, h1, h2, h3, h4, fun j z hj => ?_⟩
  obtain ⟨b, e, x, y, hc, hf⟩ := h5 j z hj
  have hb := cell_blk _ _ _ hc
  have hk := hg.block b hb (fun e => by have := hr b e.symm; omega)
  exact ⟨b, e, x, y, by rw [World.cell?_of_block (w := w) hk]; exact hc, by rw [World.frozen?_of_block (w := w) hk]; exact hf⟩
theorem owns_cells {w : World} {base e n : Nat} {v : Value} {xs : List Value} (H : w.ownsRow base e 1 v n xs) (h0 : 0 < n) : ∃ g cap, v = .slice (some ⟨g, 0, none⟩) n cap ∧ n ≤ cap ∧ cap ≤ maxLen ∧ base ≤ g ∧ g < w.heap.size ∧ ∀ (j : Nat) u, xs[j]? = some u → w.cell? ⟨g, j, none⟩ = some u ∧ w.frozen? ⟨g, j, none⟩ = false := by
  obtain ⟨hl, hv⟩ := H
  rw [Nat.mul_one] at hl
  rcases hv with ⟨_, h⟩ | ⟨g, cap, cur, rfl, hg, hh, hn, hc, hsz, ht⟩
  · omega
  · have hlt : g < w.heap.size := (Array.getElem?_eq_some_iff.1 hh).1
    refine ⟨g, cap, rfl, hn, hc, hg, hlt, fun j u hj => ?_⟩
    have hjn := (List.getElem?_eq_some_iff.1 hj).1
    rw [← ht, List.getElem?_take, if_pos (by omega), Array.getElem?_toList] at hj
    have hb : w.heap[g] = Obj.cells cur e (0, 0) := (Array.getElem?_eq_some_iff.1 hh).2
    constructor
    · simp [World.cell?, hh, hj]
    · simp [World.frozen?, hh]
/-- The slice v holds slices that hold these rows. -/
def LL (w : World) (v : Value) (zss : List (List Int)) : Prop :=
  (zss = [] ∧ ∃ a cap, v = .slice a 0 cap ∧ cap ≤ maxLen) ∨
  ∃ g cap, v = .slice (some ⟨g, 0, none⟩) zss.length cap ∧ 0 < zss.length ∧ zss.length ≤ cap ∧ cap ≤ maxLen ∧ g < w.heap.size ∧ ∀ (j : Nat) zs, zss[j]? = some zs → ∃ a c, w.cell? ⟨g, j, none⟩ = some (.slice a zs.length c) ∧ Lies w 0 w.heap.size (.slice a zs.length c) zs
def NewLL (zss : List (List Int)) (w : World) (e : Ending) (w' : World) : Prop := ∃ v, e = .returned v ∧ LL w' v zss ∧ Below w.heap.size w w'
/-- Rows that lie in blocks of their own, as an own row's cells. -/
def InnerR (w : World) (base : Nat) (f : Nat → Nat) (own : Option Nat) (zss : List (List Int)) (xs : List Value) : Prop :=
  xs.length = zss.length ∧ (∀ i j, i < zss.length → j < zss.length → f i = f j → i = j) ∧
  ∀ (j : Nat) zs, zss[j]? = some zs → ∃ a c, xs[j]? = some (.slice a zs.length c) ∧ Row w (f j) (f j + 1) (.slice a zs.length c) zs ∧ base ≤ f j ∧ f j < w.heap.size ∧ own ≠ some (f j)
theorem InnerR.nil (w : World) (base : Nat) (f : Nat → Nat) (own : Option Nat) : InnerR w base f own [] [] := ⟨rfl, fun i j h => absurd h (Nat.not_lt_zero _), fun j zs h => by simp at h⟩
theorem InnerR.below {w w' : World} {base : Nat} {f : Nat → Nat} {own : Option Nat} {zss : List (List Int)} {xs : List Value} (H : InnerR w base f own zss xs) (hb : Below w.heap.size w w') : InnerR w' base f own zss xs := by
  obtain ⟨h1, h2, h3⟩ := H
  refine ⟨h1, h2, fun j zs hj => ?_⟩
  obtain ⟨a, c, hx, hr, p1, p2, p3⟩ := h3 j zs hj
  exact ⟨a, c, hx, hr.below hb, p1, Nat.lt_of_lt_of_le p2 hb.size, p3⟩
theorem InnerR.grown {w w' : World} {base g : Nat} {f : Nat → Nat} {own : Option Nat} {zss : List (List Int)} {xs : List Value} (H : InnerR w base f own zss xs) (hg : w.grownBy w' own) (hat : own = some g ∨ w.heap.size ≤ g) : InnerR w' base f (some g) zss xs := by
  obtain ⟨h1, h2, h3⟩ := H
  refine ⟨h1, h2, fun j zs hj => ?_⟩
  obtain ⟨a, c, hx, hr, p1, p2, p3⟩ := h3 j zs hj
  refine ⟨a, c, hx, hr.grown hg (fun q hq => ?_), p1, Nat.lt_of_lt_of_le p2 hg.size, ?_⟩
  · have : q ≠ f j := fun e => p3 (by rw [hq, e])
    omega
  · intro e
    injection e with e
    rcases hat with h | h
    · exact p3 (by rw [h, e])
    · omega
theorem InnerR.snoc {w : World} {base b : Nat} {f : Nat → Nat} {own : Option Nat} {zss : List (List Int)} {xs : List Value} {zs : List Int} {a : Option Addr} {c : Nat} (H : InnerR w base f own zss xs) (hr : Row w b (b + 1) (.slice a zs.length c) zs) (h1 : base ≤ b) (h2 : b < w.heap.size) (h3 : own ≠ some b) (h4 : ∀ j, j < zss.length → f j ≠ b) :
    InnerR w base (fun j => if j = zss.length then b else f j) own (zss ++ [zs]) (xs ++ [.slice a zs.length c]) := by
  obtain ⟨p1, p2, p3⟩ := H
  refine ⟨by simp [p1], fun i j hi hj e => ?_, fun j ys hj => ?_⟩
  · rw [List.length_append, List.length_singleton] at hi hj
    by_cases hi' : i = zss.length
    · by_cases hj' : j = zss.length
      · omega
      · simp only [if_pos hi', if_neg hj'] at e
        exact absurd e.symm (h4 j (by omega))
    · by_cases hj' : j = zss.length
      · simp only [if_neg hi', if_pos hj'] at e
        exact absurd e (h4 i (by omega))
      · simp only [if_neg hi', if_neg hj'] at e
        exact p2 i j (by omega) (by omega) e
  · by_cases hjl : j < zss.length
    · rw [List.getElem?_append_left hjl] at hj
      obtain ⟨a1, c1, hx, q⟩ := p3 j ys hj
      simp only [if_neg (show ¬ j = zss.length by omega)]
      exact ⟨a1, c1, by rw [List.getElem?_append_left (by omega)]; exact hx, q⟩
    · have hjn := (List.getElem?_eq_some_iff.1 hj).1
      rw [List.length_append, List.length_singleton] at hjn
      obtain rfl : j = zss.length := by omega
      rw [List.getElem?_append_right (Nat.le_refl _), Nat.sub_self] at hj
      simp at hj
      subst hj
      simp only [if_true]
      exact ⟨a, c, by rw [← p1, List.getElem?_append_right (Nat.le_refl _), Nat.sub_self]; rfl, hr, h1, h2, h3⟩
theorem InnerR.rowL {w : World} {base n e : Nat} {f : Nat → Nat} {v : Value} {zss : List (List Int)} {xs : List Value} (H : InnerR w base f v.ownBlock zss xs) (ho : w.ownsRow base e 1 v n xs) (hn : n = zss.length) : RowL w base w.heap.size v zss := by
  obtain ⟨p1, p2, p3⟩ := H
  by_cases h0 : zss.length = 0
  · obtain rfl : zss = [] := List.eq_nil_of_length_eq_zero h0
    obtain ⟨_, h | ⟨g, cap, cur, rfl, hg, hh, hn2, hc, _⟩⟩ := ho
    · exact Or.inl ⟨rfl, none, 0, h.1, Nat.zero_le _⟩
    · exact Or.inl ⟨rfl, _, cap, by rw [hn]; rfl, hc⟩
  · obtain ⟨g, cap, rfl, hc1, hc2, hb, hlt, hcell⟩ := owns_cells ho (by omega)
    refine Or.inr ⟨g, cap, f, by rw [hn], by omega, by omega, hc2, hb, hlt, hlt, fun j hj => ?_, p2, fun j zs hj => ?_⟩
    · obtain ⟨zs, hz⟩ : ∃ zs, zss[j]? = some zs := ⟨_, List.getElem?_eq_getElem hj⟩
      obtain ⟨_, _, _, _, q1, q2, _⟩ := p3 j zs hz
      exact ⟨q1, q2⟩
    · obtain ⟨a, c, hx, hr, q1, q2, q3⟩ := p3 j zs hj
      obtain ⟨k1, k2⟩ := hcell j _ hx
      exact ⟨a, c, k1, k2, fun e => q3 (by rw [e]; rfl), q2, hr⟩
theorem InnerR.ll {w : World} {base n e : Nat} {f : Nat → Nat} {v : Value} {zss : List (List Int)} {xs : List Value} (H : InnerR w base f v.ownBlock zss xs) (ho : w.ownsRow base e 1 v n xs) (hn : n = zss.length) : LL w v zss := by
  rcases H.rowL ho hn with h | ⟨b, cap, f, h1, h2, h3, h4, h5, h6, h7, h8, h9, h10⟩
  · exact Or.inl h
  · refine Or.inr ⟨b, cap, h1, h2, h3, h4, h7, fun j zs hj => ?_⟩
    obtain ⟨a, c, k1, _, _, k4, k5⟩ := h10 j zs hj
    exact ⟨a, c, k1, k5.lies.mono (Nat.zero_le _) (by omega)⟩
theorem row_block {w : World} {lo hi : Nat} {v : Value} {zs : List Int} (H : Row w lo hi v zs) (hh : lo < hi) : ∃ b a c, v = .slice a zs.length c ∧ c ≤ maxLen ∧ zs.length ≤ c ∧ lo ≤ b ∧ b < hi ∧ Row w b (b + 1) (.slice a zs.length c) zs := by
  by_cases h0 : zs.length = 0
  · obtain ⟨a, cap, rfl, h2, h3, h4, _⟩ := H
    obtain rfl : zs = [] := List.eq_nil_of_length_eq_zero h0
    exact ⟨lo, a, cap, rfl, h3, h2, Nat.le_refl _, hh, Row.nil _ _ _ _ _ h3 h4⟩
  · obtain ⟨b, cap, rfl, h1, h2, h3, h4, h5⟩ := H.blk (by omega)
    exact ⟨b, _, cap, rfl, h2, h1, h3, h4, h5.row (Nat.le_refl _) (Nat.lt_succ_self _) h1 h2 rfl⟩
theorem news_oneV (w : World) (x : Value) (t : Nat) : ∀ (j : Nat) u, [x][j]? = some u → (w.alloc (.cells #[x] t)).cell? ((⟨w.heap.size, 0, none⟩ : Addr).add j) = some u := by
  intro j u hj
  obtain rfl : j = 0 := by have := (List.getElem?_eq_some_iff.1 hj).1; simpa using this
  simp at hj
  subst hj
  rw [show (⟨w.heap.size, 0, none⟩ : Addr).add 0 = ⟨w.heap.size, 0, none⟩ from rfl, World.cell?_alloc_at _ _ _ _ rfl]
  rfl
theorem one_slice (a : Option Addr) (n c : Nat) : ∀ u ∈ [Value.slice a n c], u.oneCell' = true := by simp [Value.oneCell']
end Go.Proofs.Ytpkieconbfgbdaa
