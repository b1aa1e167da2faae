/-
  DealTable: the model, at every argument. No conditions but that slices fit in memory.
-/
import Derived.Test.YthinpmhoklehaaaHouE
namespace Go.Proofs.Ythinpmhoklehaaa
set_option maxRecDepth 4000
open Go.RowKit
theorem sDeal_no (v0 : Value) (zs0 : List Int) (w : World) (lo0 hi0 : Nat) (hv0 : Lies w lo0 hi0 v0 zs0) (h : ¬ zs0.length ≤ 60) : Calls Try.prog 14 #[v0] w (NewTwo [] [] w) := by
  obtain ⟨a0, cap0, rfl, hlc0, hcm0, hnil0, hcell0⟩ := hv0
  unfold maxLen at hcm0
  clear hcell0 hnil0
  have hb : 60 < zs0.length := by omega
  clear h
  go_enter Try.func14, Try.ntmps14
  go_wp2_with fail
  go_loopw [4, 5, 6] (fun o p i wr => o = .slice (some ⟨w.heap.size, 0, none⟩) 0 0 ∧ p = .slice (some ⟨w.heap.size + 1, 0, none⟩) 0 0 ∧ i = .int .i64 0 ∧ wr = (w.alloc (.cells #[] 3)).alloc (.cells #[] 3)) (fun _ _ _ _ => 0)
  case atStart => exact ⟨rfl, rfl, rfl, rfl⟩
  case round =>
    obtain ⟨rfl, rfl, rfl, rfl⟩ := hrel
    go_wp2_with fail
    go_ret2
    exact ⟨_, _, rfl, rows2_of (by simp; omega) (Row.nil _ _ _ _ _ (Nat.zero_le _) (fun h => by cases h)) (Row.nil _ _ _ _ _ (Nat.zero_le _) (fun h => by cases h)) (fun g h => by simp [Value.ownBlock] at h ⊢; omega), ((Below.refl _ _).alloc (Nat.le_refl _) _).alloc (by simp) _⟩
set_option maxHeartbeats 1600000 in
theorem sDeal_yes (v0 : Value) (zs0 : List Int) (w : World) (lo0 hi0 : Nat) (hv0 : Lies w lo0 hi0 v0 zs0) (h : zs0.length ≤ 60) : Calls Try.prog 14 #[v0] w (NewTwo (evL zs0) (odL zs0) w) := by
  obtain ⟨a0, cap0, rfl, hlc0, hcm0, hnil0, hcell0⟩ := hv0
  unfold maxLen at hcm0
  have HC0 := hidH hcell0
  clear hcell0 hnil0
  obtain ⟨i0, hi0, hz0, hz1, hz2⟩ := info_parts infoInt
  have HE1 := hidH (owns_below (World.ownsRow_made (base := w.heap.size) (e := 3) (size := 1) w #[] 0 (Nat.le_refl _) (Nat.zero_le _) rfl) ((Below.refl _ _).alloc (Nat.le_refl _) (.cells #[] 3)))
  have HE2 := hidH (World.ownsRow_made (base := w.heap.size) (e := 3) (size := 1) (w.alloc (.cells #[] 3)) #[] 0 (by simp) (Nat.zero_le _) rfl)
  have HEL := hidH (evL_length zs0)
  have HOL := hidH (odL_length zs0)
  go_enter Try.func14, Try.ntmps14
  go_wp2_with fail
  go_loopw [4, 5, 6] (fun o p i wr => ∃ (k : Nat) (ov pv : Value), k ≤ zs0.length ∧ i = .int .i64 k ∧ o = ov ∧ p = pv ∧ wr.ownsRow w.heap.size 3 1 ov ((k + 1) / 2) (ints ((evL zs0).take ((k + 1) / 2))) ∧ wr.ownsRow w.heap.size 3 1 pv (k / 2) (ints ((odL zs0).take (k / 2))) ∧ Sep ov pv ∧ Below w.heap.size w wr) (fun _ _ i _ => zs0.length - (intOf i).toNat)
  case atStart => exact ⟨0, _, _, Nat.zero_le _, rfl, rfl, rfl, HE1.out, by have h := HE2.out; rw [World.size_alloc] at h; exact h, (fun g h => by simp [Value.ownBlock] at h ⊢; omega), ((Below.refl _ _).alloc (Nat.le_refl _) _).alloc (by simp) _⟩
  case round =>
    obtain ⟨k, ov, pv, hk, rfl, rfl, rfl, ho, hp, hsep, hb⟩ := hrel
    have HM := hidH ho
    have HO := hidH hp
    have HS := hidH hsep
    have HBq := hidH hb
    have hszq := hb.size
    clear ho hp hsep hb
    by_cases hlt : k < zs0.length
    · obtain ⟨z, hz⟩ := get_lt zs0 k hlt
      obtain ⟨b, off, rfl, _, hbl, hc⟩ := HC0.out k z hz
      have hcw : wr.cell? ⟨b, off + k, none⟩ = some (.int .i64 z) := by rw [HBq.out.cell (p := ⟨b, off + k, none⟩) (cell_blk _ _ _ hc)]; exact hc
      clear hc
      rcases (show k % 2 = 0 ∨ k % 2 = 1 by omega) with hpar | hpar
      · have hk2 : (k : Int) % 2 = 0 := by omega
        have HX := hidH (ints_snoc _ ((k + 1) / 2) _ (evL_get zs0 k z hz hpar))
        have HMm := hidH (owns_below HM.out ((Below.refl _ wr).alloc (Nat.le_refl _) (.cells #[.int .i64 z] 3)))
        have HOo := hidH (owns_below HO.out ((Below.refl _ wr).alloc (Nat.le_refl _) (.cells #[.int .i64 z] 3)))
        clear hz
        go_wp2_with (at_builtin; refine wpList_append_lies _ rfl _ _ 23 rfl w.heap.size 3 i0 (.int .i64 0) 1 8 Try.underlying23 hi0 hz0 hz1 hz2 rfl (by decide) _ _ _ rfl HMm.out ⟨wr.heap.size, 0, none⟩ 1 1 [.int .i64 z] rfl rfl (news_one wr _ _) (one_one _) (by decide) (by unfold maxLen; omega) (by omega) (by simp; omega) _ rfl ?_)
        intro g5 cap5 w5 hown5 hgrow hat hlt5
        have HS5 := hidH (HS.out.grown HOo.out (show Value.ownBlock (.slice (some ⟨g5, 0, none⟩) (((k + 1) / 2) + 1) cap5) = some g5 from rfl) hat (by simp))
        have HO5 := hidH (HS.out.kept HOo.out hgrow)
        have HM5 := hidH hown5
        have HB5 := hidH ((HBq.out.alloc hszq _).grown hgrow (by simp; omega) fun g hg => (HMm.out.lt g hg).1)
        rw [HX.out] at HM5
        clear hgrow hown5 hat hlt5
        go_wp2_with fail
        go_roundw
        case rel => exact ⟨k + 1, _, _, by omega, by go_num, rfl, rfl, by rw [show (k + 1 + 1) / 2 = (k + 1) / 2 + 1 by omega]; exact HM5.out, by have h := HO5.out; rw [show k / 2 = (k + 1) / 2 by omega] at h; exact h, HS5.out, HB5.out⟩
        case measure => simp [intOf]; omega
      · have hk2 : (k : Int) % 2 = 1 := by omega
        have HX := hidH (ints_snoc _ (k / 2) _ (odL_get zs0 k z hz hpar))
        have HMm := hidH (owns_below HO.out ((Below.refl _ wr).alloc (Nat.le_refl _) (.cells #[.int .i64 z] 3)))
        have HOo := hidH (owns_below HM.out ((Below.refl _ wr).alloc (Nat.le_refl _) (.cells #[.int .i64 z] 3)))
        clear hz
        go_wp2_with (at_builtin; refine wpList_append_lies _ rfl _ _ 23 rfl w.heap.size 3 i0 (.int .i64 0) 1 8 Try.underlying23 hi0 hz0 hz1 hz2 rfl (by decide) _ _ _ rfl HMm.out ⟨wr.heap.size, 0, none⟩ 1 1 [.int .i64 z] rfl rfl (news_one wr _ _) (one_one _) (by decide) (by unfold maxLen; omega) (by omega) (by simp; omega) _ rfl ?_)
        intro g5 cap5 w5 hown5 hgrow hat hlt5
        have HS5 := hidH (HS.out.symm.grown HOo.out (show Value.ownBlock (.slice (some ⟨g5, 0, none⟩) ((k / 2) + 1) cap5) = some g5 from rfl) hat (by simp))
        have HO5 := hidH (HS.out.symm.kept HOo.out hgrow)
        have HM5 := hidH hown5
        have HB5 := hidH ((HBq.out.alloc hszq _).grown hgrow (by simp; omega) fun g hg => (HMm.out.lt g hg).1)
        rw [HX.out] at HM5
        clear hgrow hown5 hat hlt5
        go_wp2_with fail
        go_roundw
        case rel => exact ⟨k + 1, _, _, by omega, by go_num, rfl, rfl, by have h := HO5.out; rw [show (k + 1) / 2 = (k + 1 + 1) / 2 by omega] at h; exact h, by rw [show (k + 1) / 2 = k / 2 + 1 by omega]; exact HM5.out, HS5.out.symm, HB5.out⟩
        case measure => simp [intOf]; omega
    · obtain rfl : k = zs0.length := by omega
      have h1 := HM.out
      have h2 := HO.out
      rw [List.take_of_length_le (by rw [HEL.out]; exact Nat.le_refl _)] at h1
      rw [List.take_of_length_le (by rw [HOL.out]; exact Nat.le_refl _)] at h2
      have HR1 := hidH (row_of_owns h1).1
      have HR2 := hidH (row_of_owns h2).1
      clear h1 h2
      go_wp2_with fail
      go_ret2
      exact ⟨_, _, rfl, rows2_of hszq HR1.out HR2.out HS.out, HBq.out⟩
theorem sDeal_any (v0 : Value) (zs0 : List Int) (w : World) (lo0 hi0 : Nat) (hv0 : Lies w lo0 hi0 v0 zs0) : Calls Try.prog 14 #[v0] w (NewTwo (dlE zs0) (dlO zs0) w) := by
  unfold dlE dlO
  by_cases h : zs0.length ≤ 60
  · rw [if_pos h, if_pos h]; exact sDeal_yes v0 zs0 w lo0 hi0 hv0 h
  · rw [if_neg h, if_neg h]; exact sDeal_no v0 zs0 w lo0 hi0 hv0 h
end Go.Proofs.Ythinpmhoklehaaa
