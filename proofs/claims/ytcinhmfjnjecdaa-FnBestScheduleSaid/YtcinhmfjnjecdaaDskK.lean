/-
  LeastSpan: the program and the model, at every argument. No conditions but that slices fit in memory.
-/
import Derived.Test.YtcinhmfjnjecdaaDskJ
namespace Go.Proofs.Ytcinhmfjnjecdaa
set_option maxRecDepth 4000
open Go.RowKit
theorem foldl_keep_in (T : List Int) (m : Nat) (A : List (List Int)) (s : Int × List Int) : (A.foldl (keepM T m) s).2 = s.2 ∨ (A.foldl (keepM T m) s).2 ∈ A := by
  induction A generalizing s with
  | nil => exact Or.inl rfl
  | cons a A ih =>
    rw [List.foldl_cons]
    rcases ih (keepM T m s a) with h | h
    · rw [h]
      unfold keepM
      split
      · exact Or.inr List.mem_cons_self
      · exact Or.inl rfl
    · exact Or.inr (List.mem_cons_of_mem _ h)
/-- The best schedule is a schedule. -/
theorem best_mem (T : List Int) (m : Nat) (hm0 : 0 < m) (hm : m ≤ 3) (hT : timesOk T = true) : (bestP T m).2 ∈ allS m T.length := by
  obtain ⟨l, hl, hb⟩ := best_start T m hm0 hm hT
  rw [hb, hl]
  rcases foldl_keep_in T m l (mostL (loadsL T (List.replicate T.length 0) m), List.replicate T.length 0) with h | h
  · rw [h]; exact List.mem_cons_self
  · exact List.mem_cons_of_mem _ h
theorem best_is (T : List Int) (m : Nat) (hm0 : 0 < m) (hm : m ≤ 3) (hT : timesOk T = true) : (bestP T m).2.length = T.length ∧ ∀ g ∈ (bestP T m).2, 0 ≤ g ∧ g < (m : Int) := allS_mem m _ _ (best_mem T m hm0 hm hT)
theorem bestA_len (T : List Int) (n : Int) : (bestA T n).length ≤ 1048576 := by
  unfold bestA
  split
  · rename_i h
    rw [Bool.and_eq_true] at h
    have ⟨a, b⟩ := of_decide_eq_true h.2
    have := (timesOk_parts h.1).1
    rw [(best_is T n.toNat (by omega) (by omega) h.1).1]; omega
  · simp
theorem span_best (T : List Int) (n : Int) : spanA T (bestA T n) n = leastA T n := by
  unfold leastA
  cases h : timesOk T && nEngOk n
  · unfold spanA; rw [h]; rfl
  · rw [Bool.and_eq_true] at h
    have ⟨a, b⟩ := of_decide_eq_true h.2
    have ⟨h1, h2⟩ := best_is T n.toNat (by omega) (by omega) h.1
    rw [bestA_yes h.1 h.2, span_yes h.1 h.2 h1 (givOk_of (fun j g hj => by have := h2 g (List.mem_of_getElem? hj); omega))]
    rfl
theorem lies_all {w : World} {lo hi : Nat} {v : Value} {zs : List Int} (H : Lies w lo hi v zs) : Lies w 0 w.heap.size v zs := by
  obtain ⟨a, cap, h1, h2, h3, h4, h5⟩ := H
  refine ⟨a, cap, h1, h2, h3, h4, fun j z hj => ?_⟩
  obtain ⟨b, off, e, _, _, hc⟩ := h5 j z hj
  exact ⟨b, off, e, Nat.zero_le _, cell_blk _ _ _ hc, hc⟩
theorem bestG_any (v0 : Value) (zs0 : List Int) (n : Int) (w : World) (lo0 hi0 : Nat) (hv0 : Lies w lo0 hi0 v0 zs0) : Calls Try.prog 13 #[v0, .int .i64 n] w (NewRow (bestA zs0 n) w) := bestS_any v0 zs0 n w (lies_all hv0)
theorem sBestG_any (v0 : Value) (zs0 : List Int) (n : Int) (w : World) (lo0 hi0 : Nat) (hv0 : Lies w lo0 hi0 v0 zs0) : Calls Try.prog 15 #[v0, .int .i64 n] w (NewRow (bestA zs0 n) w) := sBestS_any v0 zs0 n w (lies_all hv0)
theorem leastS_any (v0 : Value) (zs0 : List Int) (n : Int) (w : World) (lo0 hi0 : Nat) (hv0 : Lies w lo0 hi0 v0 zs0) : Calls Try.prog 11 #[v0, .int .i64 n] w (Gives (.int .i64 (leastA zs0 n)) w) := by
  have HV := hidH hv0
  have HB := hidH (bestG_any v0 zs0 n w lo0 hi0 hv0)
  have HS := hidH (span_best zs0 n)
  clear hv0
  go_enter Try.func11, Try.ntmps11
  go_wp2_with fail
  refine HB.out.mono ?_; rintro e w1 ⟨v1, rfl, hr, hb⟩
  have HR1 := hidH hr
  have HB1 := hidH hb
  clear hr hb
  go_wp2_with fail
  refine (spanOf_any _ zs0 _ _ n w1 _ _ _ _ (HV.out.below HB1.out) HR1.out.lies).mono ?_; rintro e w2 ⟨rfl, hb⟩
  have HB2 := hidH (bThen HB1.out hb)
  clear hb
  rw [HS.out]
  go_wp2_with fail
  go_ret
  exact ⟨rfl, HB2.out⟩
theorem sLeastS_any (v0 : Value) (zs0 : List Int) (n : Int) (w : World) (lo0 hi0 : Nat) (hv0 : Lies w lo0 hi0 v0 zs0) : Calls Try.prog 19 #[v0, .int .i64 n] w (Gives (.int .i64 (leastA zs0 n)) w) := by
  have HV := hidH hv0
  have HE := hidH (sEng_any v0 zs0 n w lo0 hi0 hv0)
  have HB := hidH (sBestG_any v0 zs0 n w lo0 hi0 hv0)
  clear hv0
  cases h : timesOk zs0 && nEngOk n
  · have HR : Hid (leastA zs0 n = -1) := by show _ = _; unfold leastA; rw [h]; rfl
    rw [h] at HE
    clear h
    go_enter Try.func19, Try.ntmps19
    go_wp2_with fail
    refine HE.out.mono ?_; rintro e w1 ⟨rfl, rfl⟩
    go_wp2_with fail
    go_ret
    exact ⟨by rw [HR.out]; rfl, Below.refl _ _⟩
  · have HR : Hid (leastA zs0 n = mostL (loadsL zs0 (bestP zs0 n.toNat).2 n.toNat)) := by show _ = _; unfold leastA; rw [h]; rfl
    rw [h] at HE
    rw [Bool.and_eq_true] at h
    have ⟨a, b⟩ := of_decide_eq_true h.2
    obtain ⟨m, rfl⟩ : ∃ m : Nat, n = (m : Int) := ⟨n.toNat, by omega⟩
    rw [bestA_yes h.1 h.2] at HB
    rw [Int.toNat_natCast] at HB HR
    have HBI := hidH (best_is zs0 m (by omega) (by omega) h.1)
    have HT := hidH h.1
    clear h
    go_enter Try.func19, Try.ntmps19
    go_wp2_with fail
    refine HE.out.mono ?_; rintro e w1 ⟨rfl, rfl⟩
    go_wp2_with fail
    refine HB.out.mono ?_; rintro e w1 ⟨v1, rfl, hr, hb⟩
    have HR1 := hidH hr
    have HB1 := hidH hb
    clear hr hb
    go_wp2_with fail
    refine (sLoads_any _ zs0 _ _ m w1 _ _ _ _ (HV.out.below HB1.out) HR1.out.lies (by omega) HT.out (fun j g hj => HBI.out.2 g (List.mem_of_getElem? hj)) (Nat.le_of_eq HBI.out.1)).mono ?_; rintro e w2 ⟨v2, rfl, hr, hb⟩
    have HR2 := hidH hr
    have HB2 := hidH (bThen HB1.out hb)
    clear hr hb
    go_wp2_with fail
    refine (sMost_any _ _ w2 _ _ HR2.out.lies).mono ?_; rintro e w3 ⟨rfl, rfl⟩
    go_wp2_with fail
    go_ret
    exact ⟨by rw [HR.out]; rfl, HB2.out⟩
end Go.Proofs.Ytcinhmfjnjecdaa
