/-
  The books of engines: what is booked, the span, and the engine that is free first. No conditions but that slices fit in memory.
-/
import Derived.Test.YtcinhmfjnjecdaaDskA
import Derived.Test.YtcinhmfjnjecdaaBox
namespace Go.Proofs.Ytcinhmfjnjecdaa
set_option maxRecDepth 4000
open Go.RowKit
/-- Three numbers from place o on in block b, which can be written. -/
structure At3 (w : World) (b o : Nat) (L : List Int) : Prop where
  lt : b < w.heap.size
  len : L.length = 3
  cell : ∀ (j : Nat) (z : Int), L[j]? = some z → w.cell? ⟨b, o + j, none⟩ = some (.int .i64 z)
  free : ∀ (j : Nat), j < 3 → w.frozen? ⟨b, o + j, none⟩ = false
theorem At3.lies {w : World} {b o : Nat} {L : List Int} (h : At3 w b o L) (m : Nat) (hm : m ≤ 3) : Lies w 0 w.heap.size (.slice (some ⟨b, o, none⟩) m 3) (L.take m) := by
  have hl := h.len
  have e : (L.take m).length = m := by rw [List.length_take]; omega
  refine ⟨some ⟨b, o, none⟩, 3, by rw [e], by omega, by unfold maxLen; omega, (fun h => by cases h), fun j z hj => ⟨b, o, rfl, Nat.zero_le _, h.lt, h.cell j z ?_⟩⟩
  rw [List.getElem?_take] at hj
  split at hj
  · exact hj
  · cases hj
theorem At3.drewN {w : World} {b o : Nat} {L : List Int} (h : At3 w b o L) (q : Nat) : At3 (w.drewN q) b o L := ⟨h.lt, h.len, fun j z hj => by rw [World.cell?_drewN]; exact h.cell j z hj, fun j hj => by simpa using h.free j hj⟩
theorem At3.below {w w' : World} {b o B : Nat} {L : List Int} (h : At3 w b o L) (hb : Below B w w') (hB : b < B) (hs : w.heap.size ≤ w'.heap.size) : At3 w' b o L := by
  have hk := hb.block b hB
  exact ⟨Nat.lt_of_lt_of_le h.lt hs, h.len, fun j z hj => by rw [World.cell?_of_block (w := w) hk]; exact h.cell j z hj, fun j hj => by rw [World.frozen?_of_block (w := w) hk]; exact h.free j hj⟩
theorem At3.set {w : World} {b o : Nat} {L : List Int} (h : At3 w b o L) (k : Nat) (x : Int) : At3 (w.setCell ⟨b, o + k, none⟩ (.int .i64 x)) b o (L.set k x) := by
  refine ⟨by simpa [World.setCell] using h.lt, by rw [List.length_set]; exact h.len, fun j z hj => ?_, fun j hj => by simpa using h.free j hj⟩
  rw [List.getElem?_set] at hj
  by_cases e : k = j
  · subst e
    rw [if_pos rfl] at hj
    by_cases hk : k < L.length
    · rw [if_pos hk] at hj
      injection hj with hj
      subst hj
      exact World.cell?_setCell_same _ _ _ (h.cell k _ (List.getElem?_eq_getElem hk))
    · rw [if_neg hk] at hj; simp at hj
  · rw [if_neg e] at hj
    rw [World.cell?_setCell_other _ _ _ _ (by intro h; injection h; omega)]; exact h.cell j z hj
theorem At3.other {w : World} {b o : Nat} {L : List Int} (h : At3 w b o L) (c k : Nat) (v : Value) (hne : b ≠ c ∨ k < o ∨ o + 3 ≤ k) : At3 (w.setCell ⟨c, k, none⟩ v) b o L := by
  have hl := h.len
  refine ⟨by simpa [World.setCell] using h.lt, h.len, fun j z hj => ?_, fun j hj => by simpa using h.free j hj⟩
  have hj3 := (List.getElem?_eq_some_iff.1 hj).1
  rw [World.cell?_setCell_other _ _ _ _ (by intro h; injection h; omega)]; exact h.cell j z hj
theorem At3.made (w : World) (t : Nat) : At3 (w.alloc (.cells #[.int .i64 0, .int .i64 0, .int .i64 0] t)) w.heap.size 0 [0, 0, 0] := by
  refine ⟨by simp, rfl, fun j z hj => ?_, fun j _ => by rw [Nat.zero_add]; exact cells_frozen _ _ _ _⟩
  rw [World.cell?_alloc_at _ _ _ _ rfl]
  match j, hj with
  | 0, hj => injection hj with hj; subst hj; rfl
  | 1, hj => injection hj with hj; subst hj; rfl
  | 2, hj => injection hj with hj; subst hj; rfl
set_option maxHeartbeats 800000 in
theorem book_any (b o : Nat) (L : List Int) (k : Nat) (x t : Int) (w : World) (h : At3 w b o L) (hk : L[k]? = some x) (hx : -100000 ≤ x ∧ x ≤ 100000) (ht : -100000 ≤ t ∧ t ≤ 100000) :
    Calls Try.prog 33 #[.pointer (some ⟨b, o, none⟩), .int .i64 (k : Int), .int .i64 t] w fun e w' => e = .returned (.tuple #[]) ∧ ∃ q, w' = (w.drewN q).setCell ⟨b, o + k, none⟩ (.int .i64 (x + t)) := by
  have hk3 : k < 3 := by have := (List.getElem?_eq_some_iff.1 hk).1; have := h.len; omega
  have c := h.cell k x hk
  have f := h.free k hk3
  have hs : IntKind.i64.wrap (x + t) = x + t := IntWalk.i64_in _ (by omega)
  have hk3' : (k : Int) < 3 := by omega
  clear hk h hx ht
  go_enter Try.func33, Try.ntmps33
  go_wp2_with fail
  go_region
  go_wp2_with fail
  go_end0
  first | exact ⟨rfl, 1, rfl⟩ | exact ⟨rfl, _, rfl⟩
theorem bspan_any (b o : Nat) (L : List Int) (w : World) (h : At3 w b o L) (h0 : ∀ (j : Nat) (z : Int), L[j]? = some z → 0 ≤ z) :
    Calls Try.prog 34 #[.pointer (some ⟨b, o, none⟩)] w fun e w' => e = .returned (.int .i64 (mostL L)) ∧ w = w' := by
  have hl := h.len
  obtain ⟨z0, hz0⟩ := get_lt L 0 (by omega)
  have HL := h.lies 3 (Nat.le_refl _)
  rw [List.take_of_length_le (by omega)] at HL
  have HM := hidH (sliceMax_any _ L w _ _ HL z0 hz0)
  have HE : Hid (L.foldl max z0 = mostL L) := by
    show L.foldl max z0 = L.foldl max 0
    have := h0 0 z0 hz0
    obtain ⟨y, L', rfl⟩ : ∃ y L', L = y :: L' := by cases L with | nil => simp at hl | cons y L' => exact ⟨y, L', rfl⟩
    injection hz0 with hz0
    subst hz0
    show L'.foldl max (max y y) = L'.foldl max (max 0 y)
    rw [show max y y = y by omega, show max 0 y = y by omega]
  clear hz0 HL h h0 hl
  go_enter Try.func34, Try.ntmps34
  go_wp2_with fail
  refine HM.out.mono ?_; rintro e w1 ⟨rfl, rfl⟩
  rw [HE.out]
  go_wp2_with fail
  go_ret
  exact ⟨rfl, rfl⟩
theorem foldmin_le (l : List Int) (a : Int) : l.foldl min a ≤ a := by
  induction l generalizing a with
  | nil => exact Int.le_refl _
  | cons x l ih => exact Int.le_trans (ih _) (Int.min_le_left a x)
theorem foldmin_mem (l : List Int) (a x : Int) (h : x ∈ l) : l.foldl min a ≤ x := by
  induction l generalizing a with
  | nil => cases h
  | cons y l ih =>
    rcases List.mem_cons.1 h with e | e
    · subst e; exact Int.le_trans (foldmin_le l _) (Int.min_le_right a _)
    · exact ih _ e
theorem foldmin_ge (l : List Int) (a b : Int) (h0 : b ≤ a) (h : ∀ x, x ∈ l → b ≤ x) : b ≤ l.foldl min a := by
  induction l generalizing a with
  | nil => exact h0
  | cons y l ih => exact ih _ (Int.le_min.2 ⟨h0, h y List.mem_cons_self⟩) (fun x hx => h x (List.mem_cons_of_mem _ hx))
theorem free_facts (L : List Int) (h : 0 < L.length) (z0 : Int) (hz0 : L[0]? = some z0) : L[freeI L]? = some (L.foldl min z0) ∧ ∀ (j : Nat) (y : Int), j < freeI L → L[j]? = some y → L.foldl min z0 < y := by
  obtain ⟨x, hx, h1, h2⟩ := freeI_is L h
  have e : L.foldl min z0 = x := by
    apply Int.le_antisymm
    · exact foldmin_mem L z0 x (List.mem_of_getElem? hx)
    · exact foldmin_ge L z0 x (h1 0 z0 hz0) (fun y hy => by
        obtain ⟨j, hj⟩ := List.getElem?_of_mem hy
        exact h1 j y hj)
  rw [e]
  exact ⟨hx, h2⟩
set_option maxHeartbeats 800000 in
theorem freeFirst_any (b o : Nat) (L : List Int) (m : Nat) (w : World) (h : At3 w b o L) (hm1 : 1 ≤ m) (hm : m ≤ 3) :
    Calls Try.prog 44 #[.pointer (some ⟨b, o, none⟩), .int .i64 (m : Int)] w fun e w' => e = .returned (.int .i64 (freeI (L.take m) : Int)) ∧ ∃ q, w' = w.drewN q := by
  have hl := h.len
  have e : (L.take m).length = m := by rw [List.length_take]; omega
  obtain ⟨z0, hz0⟩ := get_lt (L.take m) 0 (by omega)
  have HF := hidH (free_facts (L.take m) (by omega) z0 hz0)
  have HA := hidH h
  have HMN := hidH (fun q => sliceMin_any _ (L.take m) (w.drewN q) _ _ ((h.drewN q).lies m hm) z0 hz0)
  have HIX := hidH (fun q => sliceIndex_any _ (L.take m) _ (w.drewN q) _ _ ((h.drewN q).lies m hm) _ HF.out.1 HF.out.2)
  generalize (L.take m).foldl min z0 = x at *
  generalize freeI (L.take m) = k at *
  have hm3 : (m : Int) ≤ 3 := by omega
  have hm0 : (0 : Int) ≤ m := by omega
  clear hz0 h e hl HF HA
  go_enter Try.func44, Try.ntmps44
  go_wp2_with fail
  go_quiet (first
    | (go_at_call 58; exact (HMN.out _).mono (fun _ _ h => ⟨h.1, _, h.2⟩))
    | (go_at_call 57; exact (HIX.out _).mono (fun _ _ h => ⟨h.1, _, h.2⟩)))
  go_wp2_with fail
  go_ret
  exact ⟨rfl, _, rfl⟩
end Go.Proofs.Ytcinhmfjnjecdaa
