/-
  DealTable: the program, at every argument. No conditions but that slices fit in memory.
-/
import Derived.Test.YthinpmhoklehaaaErrD
import Derived.OneCell
import Derived.Deep.AppendLies
namespace Go.Proofs.Ythinpmhoklehaaa
set_option maxRecDepth 4000
open Go.RowKit
/-- Every other number, and the others. -/
def evL (zs : List Int) : List Int := (List.range ((zs.length + 1) / 2)).map fun j => zs.getD (2 * j) 0
def odL (zs : List Int) : List Int := (List.range (zs.length / 2)).map fun j => zs.getD (2 * j + 1) 0
def dlE (zs : List Int) : List Int := if zs.length ≤ 60 then evL zs else []
def dlO (zs : List Int) : List Int := if zs.length ≤ 60 then odL zs else []
theorem evL_length (zs : List Int) : (evL zs).length = (zs.length + 1) / 2 := by simp [evL]
theorem odL_length (zs : List Int) : (odL zs).length = zs.length / 2 := by simp [odL]
theorem dlE_len (zs : List Int) : (dlE zs).length ≤ 1048576 := by
  unfold dlE
  split
  · rw [evL_length]; omega
  · simp
theorem dlO_len (zs : List Int) : (dlO zs).length ≤ 1048576 := by
  unfold dlO
  split
  · rw [odL_length]; omega
  · simp
theorem evL_get (zs : List Int) (k : Nat) (z : Int) (h : zs[k]? = some z) (hk : k % 2 = 0) : (evL zs)[(k + 1) / 2]? = some z := by
  have hl := (List.getElem?_eq_some_iff.1 h).1
  have e : 2 * ((k + 1) / 2) = k := by omega
  have hd : zs.getD k 0 = z := by rw [List.getD_eq_getElem?_getD, h]; rfl
  unfold evL
  rw [List.getElem?_map, List.getElem?_range (by omega)]
  show some (zs.getD (2 * ((k + 1) / 2)) 0) = some z
  rw [e, hd]
theorem odL_get (zs : List Int) (k : Nat) (z : Int) (h : zs[k]? = some z) (hk : k % 2 = 1) : (odL zs)[k / 2]? = some z := by
  have hl := (List.getElem?_eq_some_iff.1 h).1
  have e : 2 * (k / 2) + 1 = k := by omega
  have hd : zs.getD k 0 = z := by rw [List.getD_eq_getElem?_getD, h]; rfl
  unfold odL
  rw [List.getElem?_map, List.getElem?_range (by omega)]
  show some (zs.getD (2 * (k / 2) + 1) 0) = some z
  rw [e, hd]
/-- Two own slices share no block. -/
def Sep (v u : Value) : Prop := ∀ g, v.ownBlock = some g → u.ownBlock ≠ some g
theorem Sep.symm {v u : Value} (h : Sep v u) : Sep u v := fun g h1 h2 => h g h2 h1
theorem Sep.kept {w w' : World} {base e size n : Nat} {v u : Value} {xs : List Value} (h : Sep v u) (H : w.ownsRow base e size u n xs) (hg : w.grownBy w' v.ownBlock) : w'.ownsRow base e size u n xs := by
  refine H.kept hg ?_
  cases hu : u.ownBlock with
  | none => exact .inl rfl
  | some g => exact .inr fun e => h g e.symm hu
theorem Sep.grown {w : World} {base e size n H : Nat} {v u v' : Value} {xs : List Value} {g : Nat} (h : Sep v u) (hu : w.ownsRow base e size u n xs) (hv : v'.ownBlock = some g) (hat : v.ownBlock = some g ∨ g = H) (hH : w.heap.size ≤ H) : Sep v' u := by
  intro k hk hku
  rw [hv] at hk
  injection hk with hk
  subst hk
  rcases hat with e | e
  · exact h _ e hku
  · have := (hu.lt _ hku).2
    omega
/-- Rows of two slices that share no block. -/
def Rows2 (w : World) (lo : Nat) (v u : Value) (zs ys : List Int) : Prop := ∃ l1 h1 l2 h2, Row w l1 h1 v zs ∧ Row w l2 h2 u ys ∧ lo ≤ l1 ∧ h1 ≤ w.heap.size ∧ lo ≤ l2 ∧ h2 ≤ w.heap.size ∧ (h1 ≤ l2 ∨ h2 ≤ l1)
/-- A call that answers two new rows of numbers. -/
def NewTwo (zs ys : List Int) (w : World) (e : Ending) (w' : World) : Prop := ∃ v u, e = .returned (.tuple #[v, u]) ∧ Rows2 w' w.heap.size v u zs ys ∧ Below w.heap.size w w'
theorem row_at {w : World} {lo : Nat} {v : Value} {zs : List Int} (H : Row w lo w.heap.size v zs) (h0 : 0 < zs.length) : ∃ g, v.ownBlock = some g ∧ lo ≤ g ∧ g < w.heap.size ∧ Row w g (g + 1) v zs := by
  obtain ⟨b, cap, rfl, h1, h2, h3, h4, h5⟩ := H.blk h0
  exact ⟨b, rfl, h3, h4, h5.row (Nat.le_refl _) (Nat.lt_succ_self _) h1 h2 rfl⟩
theorem row_void {w : World} {lo hi : Nat} {v : Value} {zs : List Int} (H : Row w lo hi v zs) (h0 : zs.length = 0) (l h : Nat) : Row w l h v zs := by
  obtain ⟨a, cap, h1, h2, h3, h4, h5⟩ := H
  refine ⟨a, cap, h1, h2, h3, h4, fun j z hj => ?_⟩
  have := (List.getElem?_eq_some_iff.1 hj).1
  omega
theorem rows2_of {w : World} {lo : Nat} {v u : Value} {zs ys : List Int} (hlo : lo ≤ w.heap.size) (h1 : Row w lo w.heap.size v zs) (h2 : Row w lo w.heap.size u ys) (hs : Sep v u) : Rows2 w lo v u zs ys := by
  by_cases e1 : zs.length = 0
  · exact ⟨lo, lo, lo, w.heap.size, row_void h1 e1 _ _, h2, Nat.le_refl _, hlo, Nat.le_refl _, Nat.le_refl _, .inl (Nat.le_refl _)⟩
  · by_cases e2 : ys.length = 0
    · exact ⟨lo, w.heap.size, lo, lo, h1, row_void h2 e2 _ _, Nat.le_refl _, Nat.le_refl _, Nat.le_refl _, hlo, .inr (Nat.le_refl _)⟩
    · obtain ⟨g, g1, g2, g3, g4⟩ := row_at h1 (by omega)
      obtain ⟨k, k1, k2, k3, k4⟩ := row_at h2 (by omega)
      have hne : g ≠ k := fun e => hs g g1 (by rw [e]; exact k1)
      exact ⟨g, g + 1, k, k + 1, g4, k4, g2, by omega, k2, by omega, by omega⟩
/-- Block b holds an array of two slices. -/
def Arr2 (w : World) (b : Nat) (v u : Value) : Prop := w.heap[b]? = some (.cells #[v, u] 46 (0, 0))
theorem Arr2.cell0 {w : World} {b : Nat} {v u : Value} (h : Arr2 w b v u) : w.cell? ⟨b, 0, none⟩ = some v := by
  unfold Arr2 at h
  simp [World.cell?, h]
theorem Arr2.cell1 {w : World} {b : Nat} {v u : Value} (h : Arr2 w b v u) : w.cell? ⟨b, 1, none⟩ = some u := by
  unfold Arr2 at h
  simp [World.cell?, h]
theorem Arr2.free {w : World} {b : Nat} {v u : Value} (h : Arr2 w b v u) (i : Nat) : w.frozen? ⟨b, i, none⟩ = false := by
  unfold Arr2 at h
  simp [World.frozen?, h]
theorem Arr2.lt {w : World} {b : Nat} {v u : Value} (h : Arr2 w b v u) : b < w.heap.size := (Array.getElem?_eq_some_iff.1 h).1
theorem Arr2.set0 {w : World} {b : Nat} {v u : Value} (h : Arr2 w b v u) (x : Value) : Arr2 (w.setCell ⟨b, 0, none⟩ x) b x u := by
  have hlt := h.lt
  unfold Arr2 at *
  have h' : w.heap[b] = .cells #[v, u] 46 (0, 0) := by simpa [Array.getElem?_eq_getElem hlt] using h
  show (w.heap.modify b _)[b]? = _
  rw [Array.getElem?_eq_getElem (by simpa using hlt), Array.getElem_modify_self, h']
  rfl
theorem Arr2.set1 {w : World} {b : Nat} {v u : Value} (h : Arr2 w b v u) (x : Value) : Arr2 (w.setCell ⟨b, 1, none⟩ x) b v x := by
  have hlt := h.lt
  unfold Arr2 at *
  have h' : w.heap[b] = .cells #[v, u] 46 (0, 0) := by simpa [Array.getElem?_eq_getElem hlt] using h
  show (w.heap.modify b _)[b]? = _
  rw [Array.getElem?_eq_getElem (by simpa using hlt), Array.getElem_modify_self, h']
  rfl
theorem Arr2.grown {w w' : World} {b : Nat} {v u : Value} {row : Option Nat} (h : Arr2 w b v u) (hg : w.grownBy w' row) (hr : row ≠ some b) : Arr2 w' b v u := by
  have hlt := h.lt
  unfold Arr2 at *
  rw [hg.block b hlt (fun e => hr e.symm)]
  exact h
theorem Arr2.made (w : World) : Arr2 (w.alloc (.cells #[.slice none 0 0, .slice none 0 0] 46)) w.heap.size (.slice none 0 0) (.slice none 0 0) := heap_alloc_new w _
theorem deal_no (v0 : Value) (zs0 : List Int) (w : World) (lo0 hi0 : Nat) (hv0 : Lies w lo0 hi0 v0 zs0) (h : ¬ zs0.length ≤ 60) : Calls Try.prog 12 #[v0] w (NewTwo [] [] w) := by
  obtain ⟨a0, cap0, rfl, hlc0, hcm0, hnil0, hcell0⟩ := hv0
  unfold maxLen at hcm0
  clear hcell0 hnil0
  have hb : 60 < zs0.length := by omega
  clear h
  go_enter Try.func12, Try.ntmps12
  go_wp2_with fail
  go_ret2
  exact ⟨_, _, rfl, rows2_of (Nat.le_refl _) (Row.nil _ _ _ _ _ (Nat.zero_le _) (fun _ => rfl)) (Row.nil _ _ _ _ _ (Nat.zero_le _) (fun _ => rfl)) (fun g h => by simp [Value.ownBlock] at h), Below.refl _ _⟩
set_option maxHeartbeats 1600000 in
theorem deal_yes (v0 : Value) (zs0 : List Int) (w : World) (lo0 hi0 : Nat) (hv0 : Lies w lo0 hi0 v0 zs0) (h : zs0.length ≤ 60) : Calls Try.prog 12 #[v0] w (NewTwo (evL zs0) (odL zs0) w) := by
  obtain ⟨a0, cap0, rfl, hlc0, hcm0, hnil0, hcell0⟩ := hv0
  unfold maxLen at hcm0
  have HC0 := hidH hcell0
  clear hcell0 hnil0
  obtain ⟨i0, hi0, hz0, hz1, hz2⟩ := info_parts infoInt
  have HAM := hidH (Arr2.made w)
  have HEL := hidH (evL_length zs0)
  have HOL := hidH (odL_length zs0)
  go_enter Try.func12, Try.ntmps12
  go_wp2_with fail
  go_loopw [12] (fun i wr => ∃ (k : Nat) (ov pv : Value), k ≤ zs0.length ∧ i = .int .i64 k ∧ Arr2 wr w.heap.size ov pv ∧ wr.ownsRow (w.heap.size + 1) 3 1 ov ((k + 1) / 2) (ints ((evL zs0).take ((k + 1) / 2))) ∧ wr.ownsRow (w.heap.size + 1) 3 1 pv (k / 2) (ints ((odL zs0).take (k / 2))) ∧ Sep ov pv ∧ Below w.heap.size w wr) (fun i _ => zs0.length - (intOf i).toNat)
  case atStart => exact ⟨0, _, _, Nat.zero_le _, rfl, HAM.out, ⟨rfl, .inl ⟨rfl, rfl⟩⟩, ⟨rfl, .inl ⟨rfl, rfl⟩⟩, (fun g h => by simp [Value.ownBlock] at h), (Below.refl _ _).alloc (Nat.le_refl _) _⟩
  case round =>
    obtain ⟨k, ov, pv, hk, rfl, harr, ho, hp, hsep, hb⟩ := hrel
    have HA := hidH harr
    have HM := hidH ho
    have HO := hidH hp
    have HS := hidH hsep
    have HBq := hidH hb
    have hszq := hb.size
    have hsza := harr.lt
    clear harr ho hp hsep hb
    by_cases hlt : k < zs0.length
    · obtain ⟨z, hz⟩ := get_lt zs0 k hlt
      obtain ⟨b, off, rfl, _, hbl, hc⟩ := HC0.out k z hz
      have hcw : wr.cell? ⟨b, off + k, none⟩ = some (.int .i64 z) := by rw [HBq.out.cell (p := ⟨b, off + k, none⟩) (cell_blk _ _ _ hc)]; exact hc
      clear hc
      rcases (show k % 2 = 0 ∨ k % 2 = 1 by omega) with hpar | hpar
      · have hk2 : (k : Int) % 2 = 0 := by omega
        have HX := hidH (ints_snoc _ ((k + 1) / 2) _ (evL_get zs0 k z hz hpar))
        have HA1 := hidH (HA.out.grown (World.grownBy_alloc wr (.cells #[.int .i64 z] 3) none) (by simp))
        have c0 := HA1.out.cell0
        have c00 := HA.out.cell0
        have HMm := hidH (owns_below HM.out ((Below.refl _ wr).alloc (Nat.le_refl _) (.cells #[.int .i64 z] 3)))
        have HOo := hidH (owns_below HO.out ((Below.refl _ wr).alloc (Nat.le_refl _) (.cells #[.int .i64 z] 3)))
        clear hz
        go_wp2_with (at_builtin; refine wpList_append_lies _ rfl _ _ 23 rfl (w.heap.size + 1) 3 i0 (.int .i64 0) 1 8 Try.underlying23 hi0 hz0 hz1 hz2 rfl (by decide) _ _ _ rfl HMm.out ⟨wr.heap.size, 0, none⟩ 1 1 [.int .i64 z] rfl rfl (news_one wr _ _) (one_one _) (by decide) (by unfold maxLen; omega) (by omega) (by simp; omega) _ rfl ?_)
        intro g5 cap5 w5 hown5 hgrow hat hlt5
        have HGR := hidH hgrow
        have HS5 := hidH (HS.out.grown HOo.out (show Value.ownBlock (.slice (some ⟨g5, 0, none⟩) (((k + 1) / 2) + 1) cap5) = some g5 from rfl) hat (by simp))
        have HO5 := hidH (HS.out.kept HOo.out hgrow)
        have HM5 := hidH hown5
        have HB5 := hidH ((HBq.out.alloc hszq _).grown HGR.out (by simp; omega) fun g hg => (by have := (HMm.out.lt g hg).1; omega))
        have HA5 := hidH (HA1.out.grown hgrow (fun e => by have := (HMm.out.lt _ e).1; omega))
        rw [HX.out] at HM5
        have hf := HA5.out.free 0
        have c5 := HA5.out.cell0
        have HM6 := hidH (ownsRow_setCell_other (a := ⟨w.heap.size, 0, none⟩) HM5.out (fun e => absurd (show w.heap.size + 1 ≤ w.heap.size from (HM5.out.lt _ e).1) (by omega)) (.slice (some ⟨g5, 0, none⟩) (((k + 1) / 2) + 1) cap5))
        have HO6 := hidH (ownsRow_setCell_other (a := ⟨w.heap.size, 0, none⟩) HO5.out (fun e => absurd (show w.heap.size + 1 ≤ w.heap.size from (HO5.out.lt _ e).1) (by omega)) (.slice (some ⟨g5, 0, none⟩) (((k + 1) / 2) + 1) cap5))
        clear hgrow hown5 hat hlt5 c0
        go_wp2_with fail
        go_roundw
        case rel => exact ⟨k + 1, _, _, by omega, by go_num, HA5.out.set0 _, by rw [show (k + 1 + 1) / 2 = (k + 1) / 2 + 1 by omega]; exact HM6.out, by have h := HO6.out; rw [show k / 2 = (k + 1) / 2 by omega] at h; exact h, HS5.out, HB5.out.setCell (Nat.le_refl _) _⟩
        case measure => simp [intOf]; omega
      · have hk2 : (k : Int) % 2 = 1 := by omega
        have HX := hidH (ints_snoc _ (k / 2) _ (odL_get zs0 k z hz hpar))
        have HA1 := hidH (HA.out.grown (World.grownBy_alloc wr (.cells #[.int .i64 z] 3) none) (by simp))
        have c0 := HA1.out.cell1
        have c00 := HA.out.cell1
        have HMm := hidH (owns_below HO.out ((Below.refl _ wr).alloc (Nat.le_refl _) (.cells #[.int .i64 z] 3)))
        have HOo := hidH (owns_below HM.out ((Below.refl _ wr).alloc (Nat.le_refl _) (.cells #[.int .i64 z] 3)))
        clear hz
        go_wp2_with (at_builtin; refine wpList_append_lies _ rfl _ _ 23 rfl (w.heap.size + 1) 3 i0 (.int .i64 0) 1 8 Try.underlying23 hi0 hz0 hz1 hz2 rfl (by decide) _ _ _ rfl HMm.out ⟨wr.heap.size, 0, none⟩ 1 1 [.int .i64 z] rfl rfl (news_one wr _ _) (one_one _) (by decide) (by unfold maxLen; omega) (by omega) (by simp; omega) _ rfl ?_)
        intro g5 cap5 w5 hown5 hgrow hat hlt5
        have HGR := hidH hgrow
        have HS5 := hidH (HS.out.symm.grown HOo.out (show Value.ownBlock (.slice (some ⟨g5, 0, none⟩) ((k / 2) + 1) cap5) = some g5 from rfl) hat (by simp))
        have HO5 := hidH (HS.out.symm.kept HOo.out hgrow)
        have HM5 := hidH hown5
        have HB5 := hidH ((HBq.out.alloc hszq _).grown HGR.out (by simp; omega) fun g hg => (by have := (HMm.out.lt g hg).1; omega))
        have HA5 := hidH (HA1.out.grown hgrow (fun e => by have := (HMm.out.lt _ e).1; omega))
        rw [HX.out] at HM5
        have hf := HA5.out.free 1
        have c5 := HA5.out.cell1
        have HM6 := hidH (ownsRow_setCell_other (a := ⟨w.heap.size, 1, none⟩) HM5.out (fun e => absurd (show w.heap.size + 1 ≤ w.heap.size from (HM5.out.lt _ e).1) (by omega)) (.slice (some ⟨g5, 0, none⟩) ((k / 2) + 1) cap5))
        have HO6 := hidH (ownsRow_setCell_other (a := ⟨w.heap.size, 1, none⟩) HO5.out (fun e => absurd (show w.heap.size + 1 ≤ w.heap.size from (HO5.out.lt _ e).1) (by omega)) (.slice (some ⟨g5, 0, none⟩) ((k / 2) + 1) cap5))
        clear hgrow hown5 hat hlt5 c0
        go_wp2_with fail
        go_roundw
        case rel => exact ⟨k + 1, _, _, by omega, by go_num, HA5.out.set1 _, by have h := HO6.out; rw [show (k + 1) / 2 = (k + 1 + 1) / 2 by omega] at h; exact h, by rw [show (k + 1) / 2 = k / 2 + 1 by omega]; exact HM6.out, HS5.out.symm, HB5.out.setCell (Nat.le_refl _) _⟩
        case measure => simp [intOf]; omega
    · obtain rfl : k = zs0.length := by omega
      have c0 := HA.out.cell0
      have c1 := HA.out.cell1
      have h1 := HM.out
      have h2 := HO.out
      rw [List.take_of_length_le (by rw [HEL.out]; exact Nat.le_refl _)] at h1
      rw [List.take_of_length_le (by rw [HOL.out]; exact Nat.le_refl _)] at h2
      have HR1 := hidH (row_of_owns h1).1
      have HR2 := hidH (row_of_owns h2).1
      clear h1 h2
      go_wp2_with fail
      go_quiet (fail)
      go_wp2_with fail
      go_ret2
      exact ⟨_, _, rfl, rows2_of hszq (HR1.out.mono (Nat.le_succ _) (Nat.le_refl _)) (HR2.out.mono (Nat.le_succ _) (Nat.le_refl _)) HS.out, below_drewN HBq.out _⟩
theorem deal_any (v0 : Value) (zs0 : List Int) (w : World) (lo0 hi0 : Nat) (hv0 : Lies w lo0 hi0 v0 zs0) : Calls Try.prog 12 #[v0] w (NewTwo (dlE zs0) (dlO zs0) w) := by
  unfold dlE dlO
  by_cases h : zs0.length ≤ 60
  · rw [if_pos h, if_pos h]; exact deal_yes v0 zs0 w lo0 hi0 hv0 h
  · rw [if_neg h, if_neg h]; exact deal_no v0 zs0 w lo0 hi0 hv0 h
end Go.Proofs.Ythinpmhoklehaaa
