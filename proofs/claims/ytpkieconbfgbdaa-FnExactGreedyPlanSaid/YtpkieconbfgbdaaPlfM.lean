/-
  Mathematics of steps through a table. No conditions.
-/
import Derived.Test.YtpkieconbfgbdaaPlanD
namespace Go.Proofs.Ytpkieconbfgbdaa
set_option maxRecDepth 4000
open Go.RowKit
/-- Steps that go forward, and not behind those of a place before. -/
structure Fwd (n : Nat) (nx : Nat → Nat) : Prop where
  lt : ∀ i, i < n → i < nx i
  le : ∀ i, i < n → nx i ≤ n
  mono : ∀ i j, i ≤ j → j < n → nx i ≤ nx j
/-- How many steps lead from a place to the end, with fuel. -/
def gC (nx : Nat → Nat) (n : Nat) : Nat → Nat → Nat
  | 0, _ => 0
  | f + 1, i => if i < n then 1 + gC nx n f (nx i) else 0
theorem gC_fuel {n : Nat} {nx : Nat → Nat} (h : Fwd n nx) (f g i : Nat) (hf : n - i ≤ f) (hg : n - i ≤ g) : gC nx n f i = gC nx n g i := by
  induction f generalizing g i with
  | zero =>
    have : ¬ i < n := by omega
    cases g with
    | zero => rfl
    | succ g => rw [gC, gC, if_neg this]
  | succ f ih =>
    cases g with
    | zero =>
      have : ¬ i < n := by omega
      rw [gC, gC, if_neg this]
    | succ g =>
      rw [gC, gC]
      by_cases c : i < n
      · rw [if_pos c, if_pos c]
        have := h.lt i c
        rw [ih g (nx i) (by omega) (by omega)]
      · rw [if_neg c, if_neg c]
def gN (nx : Nat → Nat) (n i : Nat) : Nat := gC nx n n i
theorem gN_end {n : Nat} {nx : Nat → Nat} (i : Nat) (hi : n ≤ i) : gN nx n i = 0 := by
  unfold gN
  cases n with
  | zero => rfl
  | succ n => rw [gC, if_neg (by omega)]
theorem gN_step {n : Nat} {nx : Nat → Nat} (h : Fwd n nx) (i : Nat) (hi : i < n) : gN nx n i = 1 + gN nx n (nx i) := by
  unfold gN
  obtain ⟨m, rfl⟩ : ∃ m, n = m + 1 := ⟨n - 1, by omega⟩
  have := h.lt i hi
  conv => lhs; rw [gC]
  rw [if_pos hi, gC_fuel h m (m + 1) (nx i) (by omega) (by omega)]
/-- Longer steps lead from a later place with no more steps to the end. -/
theorem gN_cmp {n : Nat} {nx ny : Nat → Nat} (h : Fwd n nx) (k : Fwd n ny) (hxy : ∀ i, i < n → nx i ≤ ny i) (f i j : Nat) (hf : n - i ≤ f) (hij : i ≤ j) : gN ny n j ≤ gN nx n i := by
  induction f generalizing i j with
  | zero => rw [gN_end j (by omega)]; exact Nat.zero_le _
  | succ f ih =>
    by_cases c : j < n
    · have ci : i < n := by omega
      rw [gN_step h i ci, gN_step k j c]
      have h1 := h.lt i ci
      have h2 := Nat.le_trans (h.mono i j hij c) (hxy j c)
      have := ih (nx i) (ny j) (by omega) h2
      omega
    · rw [gN_end j (by omega)]; exact Nat.zero_le _
theorem gN_mono {n : Nat} {nx : Nat → Nat} (h : Fwd n nx) (i j : Nat) (hij : i ≤ j) : gN nx n j ≤ gN nx n i := gN_cmp h h (fun _ _ => Nat.le_refl _) _ i j (Nat.le_refl _) hij
theorem gN_le {n : Nat} {nx : Nat → Nat} (h : Fwd n nx) (f i : Nat) (hf : n - i ≤ f) : gN nx n i ≤ n - i := by
  induction f generalizing i with
  | zero => rw [gN_end i (by omega)]; exact Nat.zero_le _
  | succ f ih =>
    by_cases c : i < n
    · have h1 := h.lt i c
      have := ih (nx i) (by omega)
      rw [gN_step h i c]; omega
    · rw [gN_end i (by omega)]; exact Nat.zero_le _
/-- The beginning of a table up to k: its steps end at k. -/
theorem gN_cut {n k : Nat} {nx nk : Nat → Nat} (h : Fwd n nx) (hk : Fwd k nk) (hkn : k < n) (e : ∀ i, i < k → nk i = min (nx i) k) (f i : Nat) (hf : k - i ≤ f) (hi : i ≤ k) : gN nx n i ≤ gN nk k i + gN nx n k ∧ gN nk k i + gN nx n k ≤ gN nx n i + 1 := by
  induction f generalizing i with
  | zero =>
    obtain rfl : i = k := by omega
    rw [gN_end (n := i) (nx := nk) i (Nat.le_refl _)]; omega
  | succ f ih =>
    by_cases c : i < k
    · have h1 := h.lt i (by omega)
      rw [gN_step h i (by omega), gN_step hk i c, e i c]
      by_cases d : nx i ≤ k
      · rw [Nat.min_eq_left d]
        have := ih (nx i) (by omega) d
        omega
      · rw [Nat.min_eq_right (by omega), gN_end (n := k) (nx := nk) k (Nat.le_refl _)]
        have a := gN_mono h k (nx i) (by omega)
        have b := gN_mono h (nx i) (nx k) (h.mono i k (by omega) hkn)
        rw [gN_step h k hkn]
        rw [gN_step h k hkn] at a
        omega
    · obtain rfl : i = k := by omega
      rw [gN_end (n := i) (nx := nk) i (Nat.le_refl _)]; omega
theorem dif_tail (a : Int) (l : List Int) : (dif (a :: l)).drop 1 = dif l := by
  cases l with
  | nil => rfl
  | cons b l => rfl
theorem difW_drop1 (l : List Int) : difW (l.drop 1) = (difW l).drop 1 := by
  cases l with
  | nil => rfl
  | cons a l => unfold difW; rw [← List.map_drop, dif_tail]; rfl
theorem difW_drop (l : List Int) (c : Nat) : difW (l.drop c) = (difW l).drop c := by
  induction c generalizing l with
  | zero => rfl
  | succ c ih =>
    have e : l.drop (c + 1) = (l.drop 1).drop c := by rw [List.drop_drop]; congr 1; omega
    rw [e, ih, difW_drop1, List.drop_drop]; congr 1; omega
theorem difN_drop (k : Nat) : ∀ (l : List Int) (c : Nat), difN k (l.drop c) = (difN k l).drop c := by
  induction k with
  | zero => intro l c; rfl
  | succ k ih => intro l c; rw [difN, difW_drop, ih]; rfl
theorem zero_drop (row : List Int) (c : Nat) (h : zeroOk row = true) : zeroOk (row.drop c) = true := (zero_iff _).2 fun x hx => (zero_iff _).1 h x (List.mem_of_mem_drop hx)
theorem long_self (o : Nat) (zs : List Int) : zeroOk (difN o (zs.take (longN o zs))) = true := by rw [long_run o zs _ (longN_le o zs)]; exact decide_eq_true (Nat.le_refl _)
theorem long_of (o : Nat) (zs : List Int) (m : Nat) (hm : m ≤ zs.length) (h : zeroOk (difN o (zs.take m)) = true) : m ≤ longN o zs := by rw [long_run o zs m hm] at h; exact of_decide_eq_true h
/-- Behind some entries of a run the run still is one. -/
theorem long_drop (o : Nat) (zs : List Int) (t : Nat) (ht : t < zs.length) : longN o zs ≤ t + longN o (zs.drop t) := by
  by_cases c : longN o zs ≤ t
  · omega
  · have hle := longN_le o zs
    have h := long_of o (zs.drop t) (longN o zs - t) (by rw [List.length_drop]; omega) (by
      have e : (zs.drop t).take (longN o zs - t) = (zs.take (longN o zs)).drop t := by rw [List.drop_take]
      rw [e, difN_drop]
      exact zero_drop _ _ (long_self o zs))
    omega
theorem long_take (o : Nat) (zs : List Int) (c : Nat) (hc : c ≤ zs.length) : longN o (zs.take c) = min (longN o zs) c := by
  have hl : (zs.take c).length = c := by rw [List.length_take]; omega
  have h1 := longN_le o (zs.take c)
  have h0 := longN_le o zs
  apply Nat.le_antisymm
  · refine Nat.le_min.2 ⟨long_of o zs _ (by omega) ?_, by omega⟩
    have := long_self o (zs.take c)
    rwa [List.take_take, Nat.min_eq_left (by omega)] at this
  · refine long_of o (zs.take c) _ (by omega) ?_
    rw [List.take_take, Nat.min_eq_left (Nat.min_le_right _ _)]
    rw [long_run o zs _ (by omega)]
    exact decide_eq_true (Nat.min_le_left _ _)
theorem difW_zero (row : List Int) (h : zeroOk row = true) : zeroOk (difW row) = true := by
  refine (zero_iff _).2 fun x hx => ?_
  obtain ⟨j, hj⟩ := List.getElem?_of_mem hx
  have hjl := (List.getElem?_eq_some_iff.1 hj).1
  rw [difW_length] at hjl
  obtain ⟨a, ha⟩ := get_lt row j (by omega)
  obtain ⟨b, hb⟩ := get_lt row (j + 1) (by omega)
  rw [difW_get row j a b ha hb] at hj
  injection hj with hj
  have h1 := (zero_iff _).1 h a (List.mem_of_getElem? ha)
  have h2 := (zero_iff _).1 h b (List.mem_of_getElem? hb)
  rw [← hj, h1, h2]; unfold wrap64; omega
/-- Of a higher order runs are no shorter. -/
theorem long_more (o : Nat) (zs : List Int) : longN o zs ≤ longN (o + 1) zs := by
  refine long_of (o + 1) zs _ (longN_le o zs) ?_
  rw [difN_snoc]
  exact difW_zero _ (long_self o zs)
/-- Where the next segment begins. -/
def nxZ (o : Nat) (zs : List Int) (i : Nat) : Nat := i + longN o (zs.drop i)
theorem nxZ_fwd (o : Nat) (zs : List Int) (ho : 1 ≤ o) : Fwd zs.length (nxZ o zs) := by
  refine ⟨fun i hi => ?_, fun i hi => ?_, fun i j hij hj => ?_⟩
  · have := longN_pos o (zs.drop i) ho (by rw [List.length_drop]; omega)
    unfold nxZ; omega
  · have := longN_le o (zs.drop i)
    rw [List.length_drop] at this
    unfold nxZ; omega
  · have := long_drop o (zs.drop i) (j - i) (by rw [List.length_drop]; omega)
    rw [List.drop_drop, show i + (j - i) = j by omega] at this
    unfold nxZ; omega
def fewN (o : Nat) (zs : List Int) : Nat := gN (nxZ o zs) zs.length 0
/-- What FewestSegments answers. -/
def fewA (zs : List Int) (d : Int) : Int := if smallOk zs && degOk d then (fewN (d.toNat + 1) zs : Nat) else -1
theorem gN_shift {n k : Nat} {nx nk : Nat → Nat} (hk : Fwd (n - k) nk) (h : Fwd n nx) (e : ∀ i, i < n - k → nk i + k = nx (i + k)) (f i : Nat) (hf : n - k - i ≤ f) : gN nk (n - k) i = gN nx n (i + k) := by
  induction f generalizing i with
  | zero => rw [gN_end i (by omega), gN_end (i + k) (by omega)]
  | succ f ih =>
    by_cases c : i < n - k
    · rw [gN_step hk i c, gN_step h (i + k) (by omega), ← e i c]
      have := hk.lt i c
      rw [ih (nk i) (by omega)]
    · rw [gN_end i (by omega), gN_end (i + k) (by omega)]
theorem few_drop (o : Nat) (zs : List Int) (k : Nat) (ho : 1 ≤ o) : fewN o (zs.drop k) = gN (nxZ o zs) zs.length k := by
  unfold fewN
  have h1 := nxZ_fwd o (zs.drop k) ho
  have h2 := nxZ_fwd o zs ho
  rw [List.length_drop] at h1 ⊢
  rw [gN_shift h1 h2 (fun i _ => ?_) _ 0 (Nat.le_refl _), Nat.zero_add]
  unfold nxZ
  rw [List.drop_drop, Nat.add_comm k i]; omega
theorem few_take (o : Nat) (zs : List Int) (k : Nat) (ho : 1 ≤ o) (hk : k < zs.length) : fewN o zs ≤ fewN o (zs.take k) + fewN o (zs.drop k) ∧ fewN o (zs.take k) + fewN o (zs.drop k) ≤ fewN o zs + 1 := by
  rw [few_drop o zs k ho]
  have h1 := nxZ_fwd o (zs.take k) ho
  have h2 := nxZ_fwd o zs ho
  have hl : (zs.take k).length = k := by rw [List.length_take]; omega
  unfold fewN
  rw [hl] at h1 ⊢
  refine gN_cut h2 h1 hk (fun i hi => ?_) _ 0 (Nat.le_refl _) (Nat.zero_le _)
  unfold nxZ
  have e : (zs.take k).drop i = (zs.drop i).take (k - i) := by rw [List.drop_take]
  rw [e, long_take o _ _ (by rw [List.length_drop]; omega)]
  omega
theorem few_more (o : Nat) (zs : List Int) (ho : 1 ≤ o) : fewN (o + 1) zs ≤ fewN o zs :=
  gN_cmp (nxZ_fwd o zs ho) (nxZ_fwd (o + 1) zs (by omega)) (fun i _ => by unfold nxZ; have := long_more o (zs.drop i); omega) _ 0 0 (Nat.le_refl _) (Nat.le_refl _)
theorem few_le (o : Nat) (zs : List Int) (ho : 1 ≤ o) : fewN o zs ≤ zs.length := gN_le (nxZ_fwd o zs ho) _ 0 (Nat.le_refl _)
theorem few_pos (o : Nat) (zs : List Int) (ho : 1 ≤ o) (h : 1 ≤ zs.length) : 1 ≤ fewN o zs := by
  unfold fewN
  rw [gN_step (nxZ_fwd o zs ho) 0 (by omega)]; omega
theorem few_first (o : Nat) (zs : List Int) (ho : 1 ≤ o) (h : 1 ≤ zs.length) : fewN o (zs.drop 1) ≤ fewN o zs ∧ fewN o zs ≤ fewN o (zs.drop 1) + 1 := by
  rw [few_drop o zs 1 ho]
  have h2 := nxZ_fwd o zs ho
  refine ⟨gN_mono h2 0 1 (by omega), ?_⟩
  unfold fewN
  rw [gN_step h2 0 (by omega)]
  have := gN_mono h2 1 (nxZ o zs 0) (h2.lt 0 (by omega))
  omega
theorem few_last (o : Nat) (zs : List Int) (ho : 1 ≤ o) (h : 1 ≤ zs.length) : fewN o (zs.drop (zs.length - 1)) = 1 := by
  rw [few_drop o zs _ ho, gN_step (nxZ_fwd o zs ho) _ (by omega), gN_end _ ((nxZ_fwd o zs ho).lt (zs.length - 1) (by omega) |> fun x => by omega)]
end Go.Proofs.Ytpkieconbfgbdaa
