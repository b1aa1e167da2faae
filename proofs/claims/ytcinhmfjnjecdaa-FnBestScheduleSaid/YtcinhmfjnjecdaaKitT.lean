/-
  Drawn polynomials whose numbers are small. Condition: the reader has been asked at most 900000 times.
-/
import Derived.Test.YtcinhmfjnjecdaaKitP
namespace Go.Proofs.Ytcinhmfjnjecdaa
set_option maxRecDepth 4000
open Go.RowKit
/-- A drawn row of small numbers. -/
def SomeRowS (r B : Nat) (w : World) (e : Ending) (w' : World) : Prop := ∃ (v : Value) (zs : List Int), e = .returned v ∧ w'.ownsRow w.heap.size 3 1 v zs.length (ints zs) ∧ 1 ≤ zs.length ∧ zs.length ≤ 6 ∧ (∀ x ∈ zs, -1000 ≤ x ∧ x ≤ 1000) ∧ Rd w' r (B + 15) ∧ Onto r w w'
theorem bnd_snoc {zs : List Int} {x : Int} (h : ∀ x ∈ zs, -1000 ≤ x ∧ x ≤ 1000) (h0 : -1000 ≤ x) (h1 : x ≤ 1000) : ∀ y ∈ zs ++ [x], -1000 ≤ y ∧ y ≤ 1000 := by
  intro y hy
  rcases List.mem_append.1 hy with hy | hy
  · exact h y hy
  · simp at hy
    rw [hy]
    exact ⟨h0, h1⟩
set_option maxHeartbeats 1600000 in
theorem someS_any (r B : Nat) (w : World) (h : Rd w r B) (hB : B ≤ 900000) : Calls Try.prog 79 #[.pointer (some ⟨r, 0, none⟩)] w (SomeRowS r B w) := by
  obtain ⟨i0, hi0, hz0, hz1, hz2⟩ := info_parts infoInt
  have hr := h.lt
  have HO := hidH (World.ownsRow_made (base := w.heap.size) (e := 3) (size := 1) w #[] 0 (Nat.le_refl _) (Nat.zero_le _) rfl)
  have HR0 := hidH (h.onto ((Below.refl _ _).alloc (Nat.le_refl _) (.cells #[] 3)))
  clear h
  go_enter Try.func79, Try.ntmps79
  go_wp2_with fail
  have hN := num_any (w.heap.size + 1) 0 sizes4 r B ((w.alloc (.cells #[] 3)).alloc (.cells (intC sizes4) 3)) (HR0.out.onto ((Below.refl _ _).alloc (Nat.le_refl _) _)) (by omega) (by decide) (by decide) (by have := ints_new (w.alloc (.cells #[] 3)) r 3 sizes4 HR0.out.lt; simpa using this)
  refine hN.mono ?_
  rintro e w1 ⟨sz, hsz, rfl, hR1, hO1⟩
  have hs : 3 ≤ sz ∧ sz ≤ 1000 := by
    have h : sizes4.all (fun z => decide (3 ≤ z ∧ z ≤ 1000)) = true := by decide
    exact of_decide_eq_true (List.all_eq_true.1 h sz hsz)
  obtain ⟨s1, s2⟩ := hs
  have H1 := hidH hR1
  have O1 := hidH (((Onto.refl r w).alloc (.cells #[] 3)).trans (((Onto.refl r _).alloc (.cells (intC sizes4) 3)).trans hO1))
  have W1 := hidH (owns_onto (owns_below HO.out ((Below.refl _ _).alloc (Nat.le_refl _) _)) hO1 hr)
  clear hN hsz hR1 hO1
  go_wp2_with fail
  refine (pick_any 5 r (B + 1) w1 H1.out (by omega)).mono ?_
  rintro e w2 ⟨y, rfl, y0, y1, hR2, hO2⟩
  have H2 := hidH hR2
  have O2 := hidH (O1.out.trans hO2)
  have W2 := hidH (owns_onto W1.out hO2 hr)
  have y2 := y1 (by omega)
  clear y1 hR2 hO2
  obtain ⟨q, rfl⟩ := Int.eq_ofNat_of_zero_le y0
  go_wp2_with fail
  go_loopw [3, 5] (fun o i wr => ∃ (k j : Nat) (ov : Value) (zs : List Int), k + j = 1 + q ∧ zs.length = k ∧ (∀ x ∈ zs, -1000 ≤ x ∧ x ≤ 1000) ∧ i = .int .i64 j ∧ ov = o ∧ wr.ownsRow w.heap.size 3 1 ov k (ints zs) ∧ Rd wr r (B + 2 + 2 * k) ∧ Onto r w wr) (fun _ i _ => (intOf i).toNat)
  case atStart => exact ⟨0, 1 + q, _, [], by omega, rfl, by simp, by simp, rfl, W2.out, H2.out, O2.out⟩
  case round =>
    obtain ⟨k, j, ov, zs, hkj, hlz, hsm, rfl, rfl, hown, hrd, ho⟩ := hrel
    have HKJ := hidH hkj
    have HLZ := hidH hlz
    have HSM := hidH hsm
    have HWq := hidH hown
    have HRq := hidH hrd
    have HOq := hidH ho
    have hk5 : k + j ≤ 5 := by omega
    clear hkj hlz hsm hown hrd ho
    by_cases hlt : 0 < j
    · go_wp2_with fail
      refine (pick_any 256 r _ _ HRq.out (by omega)).mono ?_
      rintro e w3 ⟨a, rfl, a0, a1, hR3, hO3⟩
      have a2 := a1 (by omega)
      have H3 := hidH hR3
      have O3 := hidH (HOq.out.trans hO3)
      have W3 := hidH (owns_onto HWq.out hO3 hr)
      clear a1 hR3 hO3
      go_wp2_with fail
      refine (pick_any 256 r _ _ H3.out (by omega)).mono ?_
      rintro e w4 ⟨b, rfl, b0, b1, hR4, hO4⟩
      have b2 := b1 (by omega)
      have H4 := hidH hR4
      have O4 := hidH (O3.out.trans hO4)
      have W4 := hidH (owns_onto W3.out hO4 hr)
      have hs4 := O4.out.size
      clear b1 hR4 hO4
      have ⟨p1, p2⟩ := prod_65025 a b a0 a2 b0 b2
      have q1 := Int.emod_nonneg (a * b) (show 2 * sz + 1 ≠ 0 by omega)
      have q2 := Int.emod_lt_of_pos (a * b) (show 0 < 2 * sz + 1 by omega)
      go_wp2_with (at_builtin; refine wpList_append_own _ rfl _ _ 23 rfl w.heap.size 3 i0 (.int .i64 0) 1 8 Try.underlying23 hi0 hz0 hz1 hz2 rfl (by decide) ov k (ints zs) rfl (W4.out.alloc _) ⟨w4.heap.size, 0, none⟩ 1 1 [.int .i64 (a * b % (2 * sz + 1) - sz)] rfl rfl (news_one w4 _ _) (one_one _) (by unfold maxLen; omega) (by omega) (by simp; omega) ?_)
      intro v' w5 hown1 hgrow _
      have HR := hidH hown1
      have hbel : OntoB r w.heap.size w4 w5 := OntoB.of_below (((Below.refl w.heap.size w4).alloc hs4 _).grown hgrow (by simp; omega) fun g hg => (W4.out.lt g hg).1)
      have HBL := hidH hbel
      have hrl : Rd w5 r (B + 2 + 2 * k + 1 + 1) := H4.out.low (((Below.refl (r + 1) w4).alloc (by have := H4.out.lt; omega) _).grown hgrow (by simp; have := H4.out.lt; omega) fun g hg => by have := (W4.out.lt g hg).1; omega)
      have HRL := hidH hrl
      clear hown1 hgrow hbel hrl
      go_wp2_with fail
      go_roundw
      case rel =>
        have hkj := HKJ.out
        refine ⟨k + 1, j - 1, v', zs ++ [a * b % (2 * sz + 1) - sz], by omega, by rw [List.length_append, HLZ.out]; rfl, bnd_snoc HSM.out (by omega) (by omega), by rw [show ((j - 1 : Nat) : Int) = (j : Int) - 1 by omega], rfl, by rw [ints_append]; exact HR.out, HRL.out.more (by omega), ((O4.out.toB (Nat.le_refl _)).trans HBL.out).onto⟩
      case measure => simp [intOf]; omega
    · obtain rfl : j = 0 := by omega
      have hk1 : k = 1 + q := by have := HKJ.out; omega
      have HK1 := hidH hk1
      have hk6 : 1 ≤ k ∧ k ≤ 5 := by omega
      obtain ⟨k1, k5⟩ := hk6
      clear hk1
      go_wp2_with fail
      refine (pick_any 5 r _ _ HRq.out (by omega)).mono ?_
      rintro e w3 ⟨a, rfl, a0, a1, hR3, hO3⟩
      have H3 := hidH hR3
      have O3 := hidH (HOq.out.trans hO3)
      have W3 := hidH (owns_onto HWq.out hO3 hr)
      have hs3 := O3.out.size
      clear a1 hR3 hO3
      by_cases e0 : a = 0
      · have b0 : (a == 0) = true := beq_iff_eq.2 e0
        clear e0
        go_wp2_with (at_builtin; refine wpList_append_own _ rfl _ _ 23 rfl w.heap.size 3 i0 (.int .i64 0) 1 8 Try.underlying23 hi0 hz0 hz1 hz2 rfl (by decide) ov k (ints zs) rfl (W3.out.alloc _) ⟨w3.heap.size, 0, none⟩ 1 1 [.int .i64 0] rfl rfl (news_one w3 _ _) (one_one _) (by unfold maxLen; omega) (by omega) (by simp; omega) ?_)
        intro v' w5 hown1 hgrow _
        have HR := hidH hown1
        have hbel : OntoB r w.heap.size w3 w5 := OntoB.of_below (((Below.refl w.heap.size w3).alloc hs3 _).grown hgrow (by simp; omega) fun g hg => (W3.out.lt g hg).1)
        have HBL := hidH hbel
        have hrl : Rd w5 r (B + 2 + 2 * k + 1) := H3.out.low (((Below.refl (r + 1) w3).alloc (by have := H3.out.lt; omega) _).grown hgrow (by simp; have := H3.out.lt; omega) fun g hg => by have := (W3.out.lt g hg).1; omega)
        have HRL := hidH hrl
        clear hown1 hgrow hbel hrl
        go_wp2_with fail
        go_ret
        exact ⟨v', zs ++ [0], rfl, by rw [ints_append, List.length_append, HLZ.out]; exact HR.out, by rw [List.length_append]; simp, by rw [List.length_append, HLZ.out]; simp; omega, bnd_snoc HSM.out (by omega) (by omega), HRL.out.more (by omega), ((O3.out.toB (Nat.le_refl _)).trans HBL.out).onto⟩
      · have b0 : (a == 0) = false := beq_eq_false_iff_ne.2 e0
        clear e0
        go_wp2_with fail
        go_ret
        exact ⟨ov, zs, rfl, by rw [HLZ.out]; exact W3.out, by rw [HLZ.out]; exact k1, by rw [HLZ.out]; omega, HSM.out, H3.out.more (by omega), O3.out⟩
end Go.Proofs.Ytcinhmfjnjecdaa
