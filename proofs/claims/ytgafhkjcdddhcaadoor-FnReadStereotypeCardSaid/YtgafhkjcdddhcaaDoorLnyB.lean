/-
  The draw of a plate. Condition: a slice of at most 1048576 bytes.
-/
import Derived.Test.YtgafhkjcdddhcaaDoorLnyA
import Derived.Deep.RegionLaw
namespace Go.Proofs.YtgafhkjcdddhcaaDoor
set_option maxRecDepth 4000
open Go.RowKit
/-- What a plate's draw puts ahead of a line. -/
def putsP : List ByteArray := [⟨#[32]⟩, ⟨#[120]⟩, ⟨#[]⟩, ⟨#[49, 32]⟩]
theorem putsP_size {z : ByteArray} (h : z ∈ putsP) : z.size ≤ 5 := by
  have q : putsP.all (fun z => decide (z.size ≤ 5)) = true := by decide
  exact of_decide_eq_true (List.all_eq_true.1 q z h)
theorem plaL_sizes (cs : List ByteArray) (n : Nat) (h : ∀ z ∈ cs, z.size ≤ n) : ∀ z ∈ plaL cs, z.size ≤ n := by
  intro z hz
  unfold plaL at hz
  split at hz
  · obtain ⟨s, hs, rfl⟩ := List.mem_map.1 hz
    exact Nat.le_trans (mirB_size _ s (lonL_ge cs s hs)) (lonL_le cs n h)
  · simp at hz
theorem plaL_len2 (cs : List ByteArray) : (plaL cs).length ≤ cs.length := by
  unfold plaL
  split
  · rw [List.length_map]; exact Nat.le_refl _
  · exact Nat.zero_le _
theorem sizes_set {ps : List ByteArray} {n q : Nat} {x : ByteArray} (h : ∀ z ∈ ps, z.size ≤ n) (hx : x.size ≤ n) : ∀ z ∈ ps.set q x, z.size ≤ n := by
  intro z hz
  rcases List.mem_or_eq_of_mem_set hz with h1 | h1
  · exact h z h1
  · rw [h1]; exact hx
/-- Drawn texts, the reader left behind. -/
def DrawnT (m s : Nat) (w : World) (e : Ending) (w' : World) : Prop := ∃ v zs, e = .returned v ∧ RowS w' w.heap.size w'.heap.size v zs ∧ zs.length ≤ m ∧ (∀ z ∈ zs, z.size ≤ s) ∧ Below w.heap.size w w'
set_option maxHeartbeats 1600000 in
theorem drawRS_any (a : Option Addr) (len cap : Nat) (w : World) (hc : Came w a len cap) (hl : len ≤ 1048576) : Calls Tryd.prog 28 #[.slice a len cap] w (DrawnT 6 100 w) := by
  have HOP := hidH (opened_any a len cap w hc hl)
  have hc1 := hc.lenLe
  have hc2 := hc.capLe
  unfold maxLen at hc2
  clear hc
  go_enter Tryd.func28, Tryd.ntmps28
  go_wp2_with fail
  refine HOP.out.mono ?_; rintro e w1 ⟨rfl, hR, hB⟩
  have R1 := hidH hR
  have B1 := hidH hB
  have s1 := hR.lt
  clear hR hB HOP
  go_wp2_with fail
  refine (words_any w.heap.size 0 w1 R1.out (by omega)).mono ?_; rintro e w2 ⟨v, zs, rfl, hrow, hz6, hzz, hR, hO⟩
  have R2 := hidH hR
  have O2 := hidH hO
  have s2 := hO.size
  have V2 := hidH hrow
  have HST := hidH (sStereo_any v zs w2 _ _ hrow.lies (fun c h => by have := hzz c h; omega))
  have hpl := plaL_len2 zs
  have HPS := hidH (plaL_sizes zs 10 hzz)
  clear hrow hzz hR hO R1
  generalize plaL zs = ps at *
  go_wp2_with fail
  refine HST.out.mono ?_; rintro e w3 ⟨u, rfl, hr, hb⟩
  have U3 := hidH hr
  have R3 := hidH (R2.out.onto hb)
  have O3 := hidH (O2.out.trans (Onto.of_below hb))
  have s3 := hb.size
  clear hr hb R2 O2 HST V2
  obtain ⟨ua, uc, rfl⟩ := U3.out.some
  by_cases h0 : ps.length = 0
  · obtain rfl : ps = [] := List.eq_nil_of_length_eq_zero h0
    clear h0
    go_wp2_with fail
    go_ret
    exact ⟨_, [], rfl, U3.out.mono (by omega) (Nat.le_refl _), Nat.zero_le _, (fun z h => by have := HPS.out z h; omega), B1.out.trans (O3.out.below (Nat.le_refl _) (by omega))⟩
  · have hp0 : 0 < ps.length := by omega
    go_wp2_with fail
    refine (pick_any 3 w.heap.size _ w3 R3.out (by omega)).mono ?_
    rintro e w4 ⟨x, rfl, x0, x1, hR4, hO4⟩
    have R4 := hidH hR4
    have O4 := hidH (O3.out.trans hO4)
    have U4 := hidH (U3.out.apart (Apart.of_onto (lo := w.heap.size) (hi := w.heap.size + 1) hO4 (Nat.le_refl _) (Nat.lt_succ_self _)) (.inr (by omega)))
    have s4 := hO4.size
    clear x1 hR4 hO4 R3 O3 U3
    by_cases e0 : x = 0
    · have b0 : (x == 0) = true := beq_iff_eq.2 e0
      clear e0
      obtain ⟨b, cp, hu, hpc, hpm, hlb, hhb, hblk⟩ := U4.out.blk hp0
      injection hu with hua _ huc
      subst hua
      subst huc
      have HBK := hidH hblk
      clear hblk
      go_wp2_with fail
      refine (pick_any ps.length w.heap.size _ w4 R4.out (by omega)).mono ?_
      rintro e w5 ⟨k, rfl, k0, k1, hR5, hO5⟩
      have R5 := hidH hR5
      have O5 := hidH (O4.out.trans hO5)
      have s5 := hO5.size
      have HB5 := hidH (HBK.out.apart (Apart.of_onto (lo := w.heap.size) (hi := w.heap.size + 1) hO5 (Nat.le_refl _) (Nat.lt_succ_self _)) (.inr (by omega)))
      have k2 := k1 (by omega)
      clear k1 hR5 hO5 R4 O4 U4 HBK
      obtain ⟨q, rfl⟩ := Int.eq_ofNat_of_zero_le k0
      have hq : q < ps.length := by omega
      obtain ⟨p, hp⟩ := get_lt ps q hq
      have hpz := HPS.out p (List.mem_of_getElem? hp)
      have HP := hidH hp
      clear hp
      have HC1 := hidH (show Rd (w5.alloc (.cells (strC putsP) 9)).drew w.heap.size _ from Rd.drewN (R5.out.onto ((Below.refl w5.heap.size w5).alloc (Nat.le_refl _) (.cells (strC putsP) 9))) 1)
      have HC2 := hidH (show Strs (w5.alloc (.cells (strC putsP) 9)).drew w.heap.size ⟨w5.heap.size, 0, none⟩ putsP from strs_new _ _ _ _ R5.out.lt)
      have HC4 := hidH (show Onto w.heap.size w1 (w5.alloc (.cells (strC putsP) 9)).drew from Onto.drewN (O5.out.trans ((Onto.refl _ w5).alloc (.cells (strC putsP) 9))) 1)
      have HC5 := hidH (show BlkS (w5.alloc (.cells (strC putsP) 9)).drew b ps from (HB5.out.below ((Below.refl w5.heap.size w5).alloc (Nat.le_refl _) (.cells (strC putsP) 9))).drewN 1)
      obtain ⟨c5, f5⟩ := HC5.out.2 q p HP.out
      have g5 := (HB5.out.2 q p HP.out).1
      have c5b : (w5.alloc (.cells #[Value.string ⟨#[32]⟩, .string ⟨#[120]⟩, .string ⟨#[]⟩, .string ⟨#[49, 32]⟩] 9)).cell? ⟨b, q, none⟩ = some (.string p) := c5
      clear R5 O5 k0 k2 HB5
      go_wp2
      go_region_law ((go_simp; go_at_call 39; refine (of_any w5.heap.size 0 putsP w.heap.size _ _ HC1.out (by omega) (by decide) (by decide) HC2.out).mono ?_; rintro e w7 ⟨z, hz, rfl, hR7, hO7⟩; (have hz5 := putsP_size hz); (have hzl : ¬ 9223372036854775807 < z.size + p.size := by omega); (have H7 := hidH (HC4.out.trans hO7)); (have HB7 := hidH (HC5.out.apart (Apart.of_onto (lo := w.heap.size) (hi := w.heap.size + 1) hO7 (Nat.le_refl _) (Nat.lt_succ_self _)) (.inr (by omega)))); (obtain ⟨c7, f7⟩ := HB7.out.2 q p HP.out); clear hz hR7 hO7))
      all_goals
        have hzp : (z ++ p).size ≤ 100 := by rw [ByteArray.size_append]; omega
        go_wp2
        go_ret
        refine ⟨_, ps.set q (z ++ p), rfl, ((HB7.out.set q (z ++ p)).row (lo := w.heap.size) (cap := uc) (by omega) ?_ (by rw [List.length_set]; exact hpc) hpm (by rw [List.length_set])), by rw [List.length_set]; omega, sizes_set (fun y h => by have := HPS.out y h; omega) hzp, ?_⟩
        · have := HB7.out.1
          simpa [World.setCell] using this
        · exact (B1.out.trans (H7.out.below (Nat.le_refl _) (by omega))).setCell (by show w.heap.size ≤ b; omega) _
    · have b0 : (x == 0) = false := beq_eq_false_iff_ne.2 e0
      clear e0
      go_wp2_with fail
      go_ret
      exact ⟨_, ps, rfl, U4.out.mono (by omega) s4, by omega, (fun z h => by have := HPS.out z h; omega), B1.out.trans (O4.out.below (Nat.le_refl _) (by omega))⟩
end Go.Proofs.YtgafhkjcdddhcaaDoor
