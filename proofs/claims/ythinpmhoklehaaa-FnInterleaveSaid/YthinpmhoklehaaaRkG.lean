/-
  The draw of entries of a table. No conditions but that the bytes that came in can be read.
-/
import Derived.Test.YthinpmhoklehaaaRkA
import Derived.Test.YthinpmhoklehaaaKitT
import Derived.Deep.AppendLies
import Derived.Deep.RegionLaw
namespace Go.Proofs.Ythinpmhoklehaaa
set_option maxRecDepth 4000
open Go.RowKit
/-- Drawn entries of a table. -/
def EntR (r B : Nat) (w : World) (e : Ending) (w' : World) : Prop := ∃ (v : Value) (zs : List Int), e = .returned v ∧ w'.ownsRow w.heap.size 3 1 v zs.length (ints zs) ∧ 1 ≤ zs.length ∧ zs.length ≤ 20 ∧ Rd w' r (B + 70) ∧ Onto r w w'
def enNums : List Int := [100, 1000, 10, 20000]
theorem rdDrewg {w : World} {r B : Nat} (h : Rd w r B) : Rd w.drew r B := h
theorem ontoDrewg (r : Nat) (w : World) : Onto r w w.drew := ⟨rfl, rfl, rfl, Nat.le_refl _, fun _ _ _ => rfl⟩
set_option maxHeartbeats 4000000 in
theorem entries6_any (r B : Nat) (w : World) (h : Rd w r B) (hB : B ≤ 700000) : Calls Try.prog 26 #[.pointer (some ⟨r, 0, none⟩)] w (EntR r B w) := by
  obtain ⟨i0, hi0, hz0, hz1, hz2⟩ := info_parts infoInt
  have hr := h.lt
  have HO := hidH (World.ownsRow_made (base := w.heap.size) (e := 3) (size := 1) w #[] 0 (Nat.le_refl _) (Nat.zero_le _) rfl)
  have HR0 := hidH (h.onto ((Below.refl _ _).alloc (Nat.le_refl _) (.cells #[] 3)))
  clear h
  go_enter Try.func26, Try.ntmps26
  go_wp2_with fail
  have hN := num_any (w.heap.size + 1) 0 enNums r B ((w.alloc (.cells #[] 3)).alloc (.cells (intC enNums) 3)) (HR0.out.onto ((Below.refl _ _).alloc (Nat.le_refl _) _)) (by omega) (by decide) (by decide) (by have := ints_new (w.alloc (.cells #[] 3)) r 3 enNums HR0.out.lt; simpa using this)
  refine hN.mono ?_
  rintro e w1 ⟨sz, hsz, rfl, hR1, hO1⟩
  have hs : 10 ≤ sz ∧ sz ≤ 20000 := by
    have h : enNums.all (fun z => decide (10 ≤ z ∧ z ≤ 20000)) = true := by decide
    exact of_decide_eq_true (List.all_eq_true.1 h sz hsz)
  obtain ⟨s1, s2⟩ := hs
  have H1 := hidH hR1
  have O1 := hidH (((Onto.refl r w).alloc (.cells #[] 3)).trans (((Onto.refl r _).alloc (.cells (intC enNums) 3)).trans hO1))
  have W1 := hidH (owns_onto (owns_below HO.out ((Below.refl _ _).alloc (Nat.le_refl _) _)) hO1 hr)
  clear hN hsz hR1 hO1
  go_wp2_with fail
  refine (pick_any 20 r (B + 1) w1 H1.out (by omega)).mono ?_
  rintro e w2 ⟨y, rfl, y0, y1, hR2, hO2⟩
  have H2 := hidH hR2
  have O2 := hidH (O1.out.trans hO2)
  have W2 := hidH (owns_onto W1.out hO2 hr)
  have y2 := y1 (by omega)
  clear y1 hR2 hO2 W1 O1 H1 HO HR0
  obtain ⟨q, rfl⟩ := Int.eq_ofNat_of_zero_le y0
  go_wp2_with fail
  go_loopw [3, 5] (fun o i wr => ∃ (k j : Nat) (ov : Value) (zs : List Int), k + j = 1 + q ∧ zs.length = k ∧ i = .int .i64 j ∧ ov = o ∧ wr.ownsRow w.heap.size 3 1 ov k (ints zs) ∧ Rd wr r (B + 2 + 3 * k) ∧ Onto r w wr) (fun _ i _ => (intOf i).toNat)
  case atStart => exact ⟨0, 1 + q, _, [], by omega, rfl, by simp, rfl, W2.out, H2.out, O2.out⟩
  case round =>
    obtain ⟨k, j, ov, zs, hkj, hlz, rfl, rfl, hown, hrd, ho⟩ := hrel
    have HKJ := hidH hkj
    have HLZ := hidH hlz
    have HW := hidH hown
    have HR := hidH hrd
    have HQ := hidH ho
    have hk5 : k + j ≤ 20 := by omega
    have hsz : w.heap.size ≤ wr.heap.size := ho.size
    have hs0 : ¬ sz = 0 := by omega
    clear hkj hlz hown hrd ho W2 O2 H2
    by_cases hlt : 0 < j
    · go_wp2_with fail
      go_region_law (first
        | (refine step_append_lies _ (by rfl) _ _ _ (by rfl) w.heap.size 3 i0 _ 1 8 Try.underlying23 hi0 hz0 hz1 hz2 rfl (by omega) ov k (ints zs) (by rfl) (by first | exact ((HW.out.alloc _).drew) | exact (HW.out.alloc _)) ⟨wd.heap.size, 0, none⟩ 1 1 [_] (by rfl) (by rfl) (World.news_of_block (cs := #[_]) (t := 3) (fr := (0, 0)) (heap_alloc_new wd _)) (by simp [Value.oneCell']) (by omega) (by unfold maxLen; omega) (by omega) (by simp; omega) (wd.heap.size + 1) (by simp) ?_; intro gg cap5 w5 hown1 hgrow hat hlt1)
        | (go_simp; go_at_call 27; (first | (with_reducible refine (pick_any _ r _ _ HR.out (by omega)).mono ?_) | (with_reducible refine (pick_any _ r _ _ (rdDrewg HR.out) (by omega)).mono ?_)); rintro e wd ⟨a, rfl, a0, a1, hR, hO⟩; have HQ := hidH (HQ.out.trans (by first | exact hO | exact (ontoDrewg r _).trans hO)); have HW := hidH (owns_onto HW.out (by first | exact hO | exact (ontoDrewg r _).trans hO) hr); have HR := hidH hR; have hsz := HQ.out.size; clear hR hO a0 a1))
      all_goals (
        have hx : ∃ x : Int, w5.ownsRow w.heap.size 3 1 (.slice (some ⟨gg, 0, none⟩) (k + 1) cap5) (k + 1) (ints (zs ++ [x])) := ⟨_, by rw [ints_append]; exact hown1⟩
        obtain ⟨x, hx⟩ := hx
        have HX := hidH hx
        have HBL := hidH (OntoB.of_below (r := r) (base := w.heap.size) (a := wd) (b := w5) (by first | exact ((Below.refl w.heap.size wd).alloc hsz _).drew.grown hgrow (by simp; omega) (fun g hg => (HW.out.lt g hg).1) | exact ((Below.refl w.heap.size wd).alloc hsz _).grown hgrow (by simp; omega) (fun g hg => (HW.out.lt g hg).1)))
        have hrl := HR.out.lt
        have HRL := hidH (show Rd w5 r (B + 2 + 3 * k + 1 + 1 + 1) from HR.out.low (by first | exact ((Below.refl (r + 1) wd).alloc (by omega) _).drew.grown hgrow (by simp; omega) (fun g hg => by have := (HW.out.lt g hg).1; omega) | exact ((Below.refl (r + 1) wd).alloc (by omega) _).grown hgrow (by simp; omega) (fun g hg => by have := (HW.out.lt g hg).1; omega)))
        clear hown1 hgrow hx hat hlt1
        go_wp2_with fail
        go_roundw
        case rel =>
          have hkj := HKJ.out
          exact ⟨k + 1, j - 1, _, zs ++ [x], by omega, by rw [List.length_append, HLZ.out]; rfl, by rw [show ((j - 1 : Nat) : Int) = (j : Int) - 1 by omega], rfl, HX.out, HRL.out.more (by omega), ((HQ.out.toB (Nat.le_refl _)).trans HBL.out).onto⟩
        case measure => simp [intOf]; omega)
    · obtain rfl : j = 0 := by omega
      have hk1 : k = 1 + q := by have := HKJ.out; omega
      have hk6 : 1 ≤ k ∧ k ≤ 20 := by omega
      obtain ⟨k1, k5⟩ := hk6
      clear hk1
      go_wp2_with fail
      go_ret
      exact ⟨ov, zs, rfl, by rw [HLZ.out]; exact HW.out, by rw [HLZ.out]; exact k1, by rw [HLZ.out]; omega, HR.out.more (by omega), HQ.out⟩
end Go.Proofs.Ythinpmhoklehaaa
