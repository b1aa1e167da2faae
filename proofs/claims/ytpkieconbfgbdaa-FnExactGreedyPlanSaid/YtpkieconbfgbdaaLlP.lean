/-
  DiffTable of the program: a table with all its differences, row by row. No conditions.
-/
import Derived.Test.YtpkieconbfgbdaaLl
import Derived.Test.YtpkieconbfgbdaaPolyL
import Derived.Test.YtpkieconbfgbdaaPolyI
import Derived.Test.YtpkieconbfgbdaaPolyT
namespace Go.Proofs.Ytpkieconbfgbdaa
set_option maxRecDepth 4000
open Go.RowKit
/-- The first m rows of a table of differences. -/
def rowsL (zs : List Int) (m : Nat) : List (List Int) := (List.range m).map fun k => difN k zs
theorem rowsL_length (zs : List Int) (m : Nat) : (rowsL zs m).length = m := by simp [rowsL]
theorem rowsL_get (zs : List Int) (m j : Nat) (h : j < m) : (rowsL zs m)[j]? = some (difN j zs) := by simp [rowsL, h]
theorem rowsL_some (zs : List Int) (m j : Nat) (xs : List Int) (h : (rowsL zs m)[j]? = some xs) : j < m ∧ xs = difN j zs := by
  have hj := (List.getElem?_eq_some_iff.1 h).1
  rw [rowsL_length] at hj
  rw [rowsL_get zs m j hj] at h
  injection h with h
  exact ⟨hj, h.symm⟩
/-- What DiffTable answers. -/
def dtA (zs : List Int) : List (List Int) := if tableOk zs && shortOk zs then rowsL zs zs.length else []
theorem dtA_yes (zs : List Int) (h : (tableOk zs && shortOk zs) = true) : dtA zs = rowsL zs zs.length := by unfold dtA; rw [if_pos h]
theorem dtA_no (zs : List Int) (h : (tableOk zs && shortOk zs) = false) : dtA zs = [] := by unfold dtA; rw [if_neg (by rw [h]; decide)]
/-- Block B holds the first m rows, and has room for n. -/
def PartL (w : World) (B n : Nat) (f : Nat → Nat) (zs : List Int) (m : Nat) : Prop :=
  LRow w B f (rowsL zs m) ∧ (∀ j, m ≤ j → j < n → w.cell? ⟨B, j, none⟩ = some (.slice none 0 0) ∧ w.frozen? ⟨B, j, none⟩ = false) ∧ (∀ j, j < m → B < f j ∧ f j < w.heap.size) ∧ (∀ i j, i < j → j < m → f i < f j) ∧ B < w.heap.size
theorem PartL.below {w w' : World} {B n m : Nat} {f : Nat → Nat} {zs : List Int} (H : PartL w B n f zs m) (hb : Below w.heap.size w w') : PartL w' B n f zs m := by
  obtain ⟨h1, h2, h3, h4, h5⟩ := H
  refine ⟨h1.below h5 hb, fun j a b => ?_, fun j hj => ?_, h4, Nat.lt_of_lt_of_le h5 hb.size⟩
  · obtain ⟨hc, hf⟩ := h2 j a b
    exact ⟨by rw [hb.cell (p := ⟨B, j, none⟩) h5]; exact hc, by rw [hb.frozen (p := ⟨B, j, none⟩) h5]; exact hf⟩
  · have := h3 j hj
    have := hb.size
    omega
theorem PartL.next {w : World} {B n m b' : Nat} {f : Nat → Nat} {zs : List Int} {a : Option Addr} {cap : Nat} (H : PartL w B n f zs m) (hm : m < n) (hR : Row w b' (b' + 1) (.slice a (difN m zs).length cap) (difN m zs)) (h1 : ∀ j, j < m → f j < b') (h2 : B < b') (h3 : b' < w.heap.size) :
    PartL (w.setCell ⟨B, m, none⟩ (.slice a (difN m zs).length cap)) B n (fun j => if j = m then b' else f j) zs (m + 1) := by
  obtain ⟨p1, p2, p3, p4, p5⟩ := H
  have hO := Onto.setCell B m w (.slice a (difN m zs).length cap)
  have hA := Apart.of_onto (lo := B) (hi := B + 1) hO (Nat.le_refl _) (Nat.lt_succ_self _)
  have hsz : (w.setCell ⟨B, m, none⟩ (.slice a (difN m zs).length cap)).heap.size = w.heap.size := by simp
  obtain ⟨hcm, hfm⟩ := p2 m (Nat.le_refl _) hm
  refine ⟨fun j xs hj => ?_, fun j a1 a2 => ?_, fun j hj => ?_, fun i j hij hj => ?_, by rw [hsz]; exact p5⟩
  · obtain ⟨hjm, rfl⟩ := rowsL_some zs (m + 1) j xs hj
    by_cases e : j = m
    · subst e
      refine ⟨a, cap, World.cell?_setCell_same _ _ _ hcm, by simpa using hfm, ?_, ?_, ?_⟩
      · simp only [if_true]; omega
      · simp only [if_true]; rw [hsz]; exact h3
      · simp only [if_true]; exact hR.apart hA (by omega)
    · obtain ⟨a0, c0, hc, hf, hne, hlt, hr⟩ := p1 j _ (rowsL_get zs m j (by omega))
      have hfj := p3 j (by omega)
      refine ⟨a0, c0, ?_, by simpa using hf, ?_, ?_, ?_⟩
      · rw [World.cell?_setCell_other _ _ _ _ (by intro h; injection h; omega)]; exact hc
      · simp only [if_neg e]; exact hne
      · simp only [if_neg e]; rw [hsz]; exact hlt
      · simp only [if_neg e]; exact hr.apart hA (by omega)
  · obtain ⟨hc, hf⟩ := p2 j (by omega) a2
    exact ⟨by rw [World.cell?_setCell_other _ _ _ _ (by intro h; injection h; omega)]; exact hc, by simpa using hf⟩
  · by_cases e : j = m
    · simp only [if_pos e]; rw [hsz]; omega
    · simp only [if_neg e]; rw [hsz]; exact p3 j (by omega)
  · by_cases e : j = m
    · subst e
      simp only [if_true, if_neg (show ¬ i = j by omega)]
      exact h1 i hij
    · simp only [if_neg e, if_neg (show ¬ i = m by omega)]
      exact p4 i j hij (by omega)
theorem PartL.rowL {w : World} {B n lo : Nat} {f : Nat → Nat} {zs : List Int} (H : PartL w B n f zs n) (h0 : 0 < n) (hn : n ≤ 1000) (hlo : lo ≤ B) : RowL w lo w.heap.size (.slice (some ⟨B, 0, none⟩) n n) (rowsL zs n) := by
  obtain ⟨p1, p2, p3, p4, p5⟩ := H
  have hl := rowsL_length zs n
  refine Or.inr ⟨B, n, f, by rw [hl], by omega, by omega, by unfold maxLen; omega, hlo, p5, p5, fun j hj => ?_, fun i j hi hj e => ?_, p1⟩
  · have := p3 j (by omega)
    omega
  · rw [hl] at hi hj
    rcases Nat.lt_trichotomy i j with h | h | h
    · have := p4 i j h hj; omega
    · exact h
    · have := p4 j i h hi; omega
theorem infoSl : (Try.prog.info? 22).map (fun i => (i.zero, i.size, i.bytes)) = some (some (.slice none 0 0), 1, 24) := by kernel_rfl
/-- A call that answers new rows of numbers. -/
def NewRowL (zss : List (List Int)) (w : World) (e : Ending) (w' : World) : Prop := ∃ v, e = .returned v ∧ RowL w' w.heap.size w'.heap.size v zss ∧ Below w.heap.size w w'
theorem made_nil (w : World) (t n : Nat) : ∀ j, j < n → (w.alloc (.cells (madeCells #[Value.slice none 0 0] n) t)).cell? ⟨w.heap.size, j, none⟩ = some (.slice none 0 0) ∧ (w.alloc (.cells (madeCells #[Value.slice none 0 0] n) t)).frozen? ⟨w.heap.size, j, none⟩ = false := by
  intro j hj
  refine ⟨?_, cells_frozen _ _ _ _⟩
  rw [World.cell?_alloc_at _ _ _ _ rfl]
  simp [madeCells, hj, Nat.mod_one]
end Go.Proofs.Ytpkieconbfgbdaa
