/-
  The draw of a schedule. No conditions but that the bytes that came in can be read.
-/
import Derived.Test.YtcinhmfjnjecdaaDskL
namespace Go.Proofs.Ytcinhmfjnjecdaa
set_option maxRecDepth 4000
open Go.RowKit
/-- Drawn times, a drawn schedule and a number of engines. -/
def DrawTG (w : World) (e : Ending) (w' : World) : Prop := ∃ (v : Value) (zs : List Int) (u : Value) (gs : List Int) (n : Int), e = .returned (.tuple #[v, u, .int .i64 n]) ∧ Lies w' 0 w'.heap.size v zs ∧ Lies w' 0 w'.heap.size u gs ∧ zs.length ≤ 9 ∧ gs.length ≤ 10 ∧ -1 ≤ n ∧ n ≤ 4 ∧ Below w.heap.size w w'
theorem row_ontoB {w w' : World} {r l h base : Nat} {v : Value} {zs : List Int} (H : Row w l h v zs) (ho : OntoB r base w w') (hr : r < l) (hb : h ≤ base) : Row w' l h v zs := by
  obtain ⟨a, cap, h1, h2, h3, h4, h5⟩ := H
  refine ⟨a, cap, h1, h2, h3, h4, fun j z hj => ?_⟩
  obtain ⟨b, e, x, y, hc, hf⟩ := h5 j z hj
  have hk := ho.block b (by omega) (by omega)
  exact ⟨b, e, x, y, by rw [World.cell?_of_block (w := w) hk]; exact hc, by rw [World.frozen?_of_block (w := w) hk]; exact hf⟩
theorem owns_store {w : World} {base e n : Nat} {v : Value} {xs : List Value} (H : w.ownsRow base e 1 v n xs) (g cap k : Nat) (hv : v = .slice (some ⟨g, 0, none⟩) n cap) (u : Value) : (w.setCell ⟨g, k, none⟩ u).ownsRow base e 1 v n (xs.set k u) := by
  obtain ⟨hl, h⟩ := H
  refine ⟨by rw [List.length_set]; exact hl, ?_⟩
  rcases h with ⟨h1, h2⟩ | ⟨g2, cap2, cur, hv2, hg, hh, hn, hc, hsz, ht⟩
  · rw [hv] at h1; cases h1
  · rw [hv] at hv2
    injection hv2 with e1 e2 e3
    injection e1 with e1
    injection e1 with e1
    subst e1 e3
    refine Or.inr ⟨g, cap, cur.setIfInBounds k u, hv, hg, ?_, hn, hc, by simpa using hsz, ?_⟩
    · simp [World.setCell, Array.getElem?_modify, hh]
    · rw [← ht, Array.toList_setIfInBounds, List.take_set]
theorem ints_set (gs : List Int) (k : Nat) (z : Int) : (ints gs).set k (.int .i64 z) = ints (gs.set k z) := by unfold ints; rw [List.map_set]
theorem fin8 {w w3 w' : World} (h : Below w.heap.size w w3) (k : OntoB w.heap.size w3.heap.size w3 w') (hs : w.heap.size < w3.heap.size) : Below w.heap.size w w' :=
  ⟨k.os.trans h.os, k.tape.trans h.tape, k.output.trans h.output, Nat.le_trans h.size k.size, fun j hj => (k.block j (by omega) (by omega)).trans (h.block j hj)⟩
set_option maxHeartbeats 6400000 in
theorem drawSpan8 (a : Option Addr) (len cap : Nat) (w : World) (hc : Came w a len cap) (hl : len ≤ 1048576) : Calls Try.prog 8 #[.slice a len cap] w (DrawTG w) := by
  obtain ⟨i0, hi0, hz0, hz1, hz2⟩ := info_parts infoInt
  have HO := hidH (opened_any a len cap w hc hl)
  clear hc
  go_enter Try.func8, Try.ntmps8
  go_wp2_with fail
  refine HO.out.mono ?_
  rintro e w1 ⟨rfl, hR, hB⟩
  have R1 := hidH hR
  have B1 := hidH hB
  have s1 := hB.size
  have hr1 := hR.lt
  clear hR hB HO
  go_wp2_with fail
  refine (times8_any w.heap.size _ w1 R1.out (by omega)).mono ?_
  rintro e w2 ⟨v, zs, rfl, hown, hl9, hR, hO⟩
  have R2 := hidH hR
  have O2 := hidH hO
  have W2 := hidH hown
  clear hR hO hown
  go_wp2_with fail
  refine (number8_any w.heap.size _ w2 R2.out (by omega)).mono ?_
  rintro e w3 ⟨n, rfl, hn0, hn1, hR, hO⟩
  have R3 := hidH hR
  have O3 := hidH (O2.out.trans hO)
  have HT3 := hidH (row_of_owns (owns_onto W2.out hO hr1)).1
  have B3 := hidH (B1.out.trans (O3.out.below (Nat.le_refl _) s1))
  have hs3 := O3.out.size
  have hr3 : w.heap.size < w3.heap.size := by omega
  clear hR hO W2 R1 R2 O2
  have HO := hidH (World.ownsRow_made (base := w3.heap.size) (e := 3) (size := 1) w3 #[] 0 (Nat.le_refl _) (Nat.zero_le _) rfl)
  obtain ⟨za, zcap, rfl, zc1, zc2, _, _⟩ := HT3.out
  unfold maxLen at zc2
  by_cases hnn : n < 1
  · skip
    go_wp2_with fail
    go_loopw [8, 9] (fun o i wr => ∃ (k : Nat) (ov : Value) (gs : List Int), k ≤ zs.length ∧ gs.length = k ∧ i = .int .i64 k ∧ ov = o ∧ wr.ownsRow w3.heap.size 3 1 ov k (ints gs) ∧ Rd wr w.heap.size (100 + k) ∧ OntoB w.heap.size w3.heap.size w3 wr) (fun _ i _ => zs.length - (intOf i).toNat)
    case atStart => exact ⟨0, _, [], Nat.zero_le _, rfl, rfl, rfl, HO.out, (R3.out.onto ((Below.refl _ _).alloc (Nat.le_refl _) _)).more (by omega), OntoB.of_below ((Below.refl _ _).alloc (Nat.le_refl _) _)⟩
    case round =>
      obtain ⟨k, ov, gs, hk, hlz, rfl, rfl, hown, hrd, ho⟩ := hrel
      have HLZ := hidH hlz
      have HW := hidH hown
      have HR := hidH hrd
      have HQ := hidH ho
      have hsz : w3.heap.size ≤ wr.heap.size := ho.size
      clear hlz hown hrd ho HO
      by_cases hlt : k < zs.length
      · go_wp2_with fail
        refine (pick_any 1 w.heap.size _ wr HR.out (by omega)).mono ?_
        rintro e w4 ⟨x, rfl, x0, x1, hR, hO⟩
        have R4 := hidH hR
        have Q4 := hidH (HQ.out.trans (hO.toB hsz))
        have W4 := hidH (owns_onto HW.out hO (by omega))
        have hs4 := Q4.out.size
        clear x0 x1 hR hO
        go_wp2_with (at_builtin; refine wpList_append_own _ rfl _ _ 23 rfl w3.heap.size 3 i0 (.int .i64 0) 1 8 Try.underlying23 hi0 hz0 hz1 hz2 rfl (by decide) _ _ _ rfl (owns_below W4.out ((Below.refl _ w4).alloc (Nat.le_refl _) _)) ⟨w4.heap.size, 0, none⟩ 1 1 [.int .i64 x] rfl rfl (news_one w4 _ _) (one_one _) (by unfold maxLen; omega) (by omega) (by simp; omega) ?_)
        intro v5a w5a hown1 hgrow _
        have HXa := hidH (show w5a.ownsRow w3.heap.size 3 1 v5a (k + 1) (ints (gs ++ [x])) by rw [ints_append]; exact hown1)
        have QLa := hidH (Q4.out.trans (OntoB.of_below (r := w.heap.size) (base := w3.heap.size) (a := w4) (b := w5a) (((Below.refl w3.heap.size w4).alloc (by omega) _).grown hgrow (by simp; omega) (fun g hg => (W4.out.lt g hg).1))))
        have RLa := hidH (R4.out.low (((Below.refl (w.heap.size + 1) w4).alloc (by have := R4.out.lt; omega) _).grown hgrow (by simp; have := R4.out.lt; omega) (fun g hg => by have := (W4.out.lt g hg).1; omega)))
        clear hown1 hgrow
        go_wp2_with fail
        go_roundw
        case rel => exact ⟨k + 1, v5a, gs ++ [x], by omega, by rw [List.length_append, HLZ.out]; rfl, by go_num, rfl, HXa.out, RLa.out.more (by omega), QLa.out⟩
        case measure => simp [intOf]; omega
      · obtain rfl : k = zs.length := by omega
        by_cases hzl : 0 < zs.length
        rotate_left
        · obtain ⟨ad, cp, hov, hcp⟩ : ∃ (ad : Option Addr) (cp : Nat), ov = .slice ad zs.length cp ∧ cp ≤ 9223372036854775807 := by
            obtain ⟨hl, hv⟩ := HW.out
            rcases hv with ⟨h1, h2⟩ | ⟨g1, cap, cur, h1, _, _, _, hc, _, _⟩
            · exact ⟨none, 0, by rw [h2]; exact h1, by omega⟩
            · exact ⟨_, cap, h1, by unfold maxLen at hc; omega⟩
          subst hov
          go_wp2_with fail
          refine (pick_any 16 w.heap.size _ wr HR.out (by omega)).mono ?_
          rintro e w7 ⟨y, rfl, y0, y1, hR, hO⟩
          have R7 := hidH hR
          have Q7 := hidH (HQ.out.trans (hO.toB (by have := HQ.out.size; omega)))
          have W7 := hidH (owns_onto HW.out hO (by omega))
          have hs7 := Q7.out.size
          clear y0 y1 hR hO
          by_cases f0 : y = 0
          · have b9 : (y == 0) = true := beq_iff_eq.2 f0
            clear f0
            go_wp2_with (at_builtin; refine wpList_append_own _ rfl _ _ 23 rfl w3.heap.size 3 i0 (.int .i64 0) 1 8 Try.underlying23 hi0 hz0 hz1 hz2 rfl (by decide) _ _ _ rfl (owns_below W7.out ((Below.refl _ w7).alloc (Nat.le_refl _) _)) ⟨w7.heap.size, 0, none⟩ 1 1 [.int .i64 0] rfl rfl (news_one w7 _ _) (one_one _) (by unfold maxLen; omega) (by omega) (by simp; omega) ?_)
            intro v5z w5z hown1 hgrow _
            have HXz := hidH (show w5z.ownsRow w3.heap.size 3 1 v5z (zs.length + 1) (ints (gs ++ [(0 : Int)])) by rw [ints_append]; exact hown1)
            have QLz := hidH (Q7.out.trans (OntoB.of_below (r := w.heap.size) (base := w3.heap.size) (a := w7) (b := w5z) (((Below.refl w3.heap.size w7).alloc (by omega) _).grown hgrow (by simp; omega) (fun g hg => (W7.out.lt g hg).1))))
            have RLz := hidH (R7.out.low (((Below.refl (w.heap.size + 1) w7).alloc (by have := R7.out.lt; omega) _).grown hgrow (by simp; have := R7.out.lt; omega) (fun g hg => by have := (W7.out.lt g hg).1; omega)))
            clear hown1 hgrow
            go_wp2_with fail
            go_ret3
            exact ⟨_, zs, _, gs ++ [0], n, rfl, (row_ontoB HT3.out QLz.out (by omega) (Nat.le_refl _)).lies.top, (row_of_owns HXz.out).1.lies.top, hl9, by rw [List.length_append]; have := HLZ.out; simp only [List.length_cons, List.length_nil]; omega, hn0, hn1, fin8 B3.out QLz.out hr3⟩
          · have b9 : (y == 0) = false := beq_eq_false_iff_ne.2 f0
            clear f0
            go_wp2_with fail
            go_ret3
            exact ⟨_, zs, _, gs, n, rfl, (row_ontoB HT3.out Q7.out (by omega) (Nat.le_refl _)).lies.top, (row_of_owns W7.out).1.lies.top, hl9, by have := HLZ.out; omega, hn0, hn1, fin8 B3.out Q7.out hr3⟩
        · obtain ⟨gg, cap, rfl, hc1, hc2, hgb, _⟩ := owns_form HW.out (by omega)
          unfold maxLen at hc2
          have HG1 := hidH (show 0 < gs.length by have := HLZ.out; omega)
          go_wp2_with fail
          refine (pick_any 12 w.heap.size _ wr HR.out (by omega)).mono ?_
          rintro e w4 ⟨x, rfl, x0, x1, hR, hO⟩
          have R4 := hidH hR
          have Q4 := hidH (HQ.out.trans (hO.toB hsz))
          have W4 := hidH (owns_onto HW.out hO (by omega))
          have hs4 := Q4.out.size
          clear x0 x1 hR hO
          by_cases e0 : x = 0
          · have b0 : (x == 0) = true := beq_iff_eq.2 e0
            clear e0
            go_wp2_with fail
            have hN := num_any w4.heap.size 0 [-1, n, 9223372036854775807] w.heap.size _ (w4.alloc (.cells (intC [-1, n, 9223372036854775807]) 3)) (R4.out.onto ((Below.refl _ _).alloc (Nat.le_refl _) _)) (by omega) (by simp) (by simp) (ints_new _ _ _ _ R4.out.lt)
            refine hN.mono ?_
            rintro e w6 ⟨z, hz, rfl, hR, hO⟩
            have R6 := hidH hR
            have hOB := ((Onto.refl w.heap.size w4).alloc (.cells (intC [-1, n, 9223372036854775807]) 3)).trans hO
            have Q6 := hidH (Q4.out.trans (hOB.toB hs4))
            have W6 := hidH (owns_onto W4.out hOB (by omega))
            have hs6 := Q6.out.size
            clear hN hz hR hO hOB
            obtain ⟨y0, hy0⟩ := get_lt gs 0 HG1.out
            obtain ⟨bq, capq, hbe, _, _, _, _, hblk⟩ := (row_of_owns W6.out).1.blk HG1.out
            injection hbe with hb1 hb2 hb3
            injection hb1 with hb1
            injection hb1 with hb1
            subst hb1
            subst hb3
            obtain ⟨hcy, hfy⟩ := hblk.2 0 y0 hy0
            have WS := hidH (owns_store W6.out gg cap 0 rfl (.int .i64 z))
            rw [ints_set] at WS
            have RS := hidH (R6.out.low ((Below.refl (w.heap.size + 1) w6).setCell (p := ⟨gg, 0, none⟩) (by show w.heap.size + 1 ≤ gg; omega) (.int .i64 z)))
            have QS := hidH (Q6.out.trans (OntoB.of_below (r := w.heap.size) ((Below.refl w3.heap.size w6).setCell (p := ⟨gg, 0, none⟩) hgb (.int .i64 z))))
            have HSL := hidH (show (gs.set 0 z).length = zs.length by rw [List.length_set]; exact HLZ.out)
            clear hy0 hblk hb2
            go_wp2_with fail
            generalize w6.setCell ⟨gg, 0, none⟩ (.int .i64 z) = w6s at *
            refine (pick_any 16 w.heap.size _ w6s RS.out (by omega)).mono ?_
            rintro e w7 ⟨y, rfl, y0, y1, hR, hO⟩
            have R7 := hidH hR
            have Q7 := hidH (QS.out.trans (hO.toB (by have := QS.out.size; omega)))
            have W7 := hidH (owns_onto WS.out hO (by omega))
            have hs7 := Q7.out.size
            clear y0 y1 hR hO
            by_cases f0 : y = 0
            · have b9 : (y == 0) = true := beq_iff_eq.2 f0
              clear f0
              go_wp2_with (at_builtin; refine wpList_append_own _ rfl _ _ 23 rfl w3.heap.size 3 i0 (.int .i64 0) 1 8 Try.underlying23 hi0 hz0 hz1 hz2 rfl (by decide) _ _ _ rfl (owns_below W7.out ((Below.refl _ w7).alloc (Nat.le_refl _) _)) ⟨w7.heap.size, 0, none⟩ 1 1 [.int .i64 0] rfl rfl (news_one w7 _ _) (one_one _) (by unfold maxLen; omega) (by omega) (by simp; omega) ?_)
              intro v5z w5z hown1 hgrow _
              have HXz := hidH (show w5z.ownsRow w3.heap.size 3 1 v5z (zs.length + 1) (ints ((gs.set 0 z) ++ [(0 : Int)])) by rw [ints_append]; exact hown1)
              have QLz := hidH (Q7.out.trans (OntoB.of_below (r := w.heap.size) (base := w3.heap.size) (a := w7) (b := w5z) (((Below.refl w3.heap.size w7).alloc (by omega) _).grown hgrow (by simp; omega) (fun g hg => (W7.out.lt g hg).1))))
              have RLz := hidH (R7.out.low (((Below.refl (w.heap.size + 1) w7).alloc (by have := R7.out.lt; omega) _).grown hgrow (by simp; have := R7.out.lt; omega) (fun g hg => by have := (W7.out.lt g hg).1; omega)))
              clear hown1 hgrow
              go_wp2_with fail
              go_ret3
              exact ⟨_, zs, _, (gs.set 0 z) ++ [0], n, rfl, (row_ontoB HT3.out QLz.out (by omega) (Nat.le_refl _)).lies.top, (row_of_owns HXz.out).1.lies.top, hl9, by rw [List.length_append]; have := HSL.out; simp only [List.length_cons, List.length_nil]; omega, hn0, hn1, fin8 B3.out QLz.out hr3⟩
            · have b9 : (y == 0) = false := beq_eq_false_iff_ne.2 f0
              clear f0
              go_wp2_with fail
              go_ret3
              exact ⟨_, zs, _, (gs.set 0 z), n, rfl, (row_ontoB HT3.out Q7.out (by omega) (Nat.le_refl _)).lies.top, (row_of_owns W7.out).1.lies.top, hl9, by have := HSL.out; omega, hn0, hn1, fin8 B3.out Q7.out hr3⟩
          · have b0 : (x == 0) = false := beq_eq_false_iff_ne.2 e0
            clear e0
            go_wp2_with fail
            refine (pick_any 16 w.heap.size _ w4 R4.out (by omega)).mono ?_
            rintro e w7 ⟨y, rfl, y0, y1, hR, hO⟩
            have R7 := hidH hR
            have Q7 := hidH (Q4.out.trans (hO.toB (by have := Q4.out.size; omega)))
            have W7 := hidH (owns_onto W4.out hO (by omega))
            have hs7 := Q7.out.size
            clear y0 y1 hR hO
            by_cases f0 : y = 0
            · have b9 : (y == 0) = true := beq_iff_eq.2 f0
              clear f0
              go_wp2_with (at_builtin; refine wpList_append_own _ rfl _ _ 23 rfl w3.heap.size 3 i0 (.int .i64 0) 1 8 Try.underlying23 hi0 hz0 hz1 hz2 rfl (by decide) _ _ _ rfl (owns_below W7.out ((Below.refl _ w7).alloc (Nat.le_refl _) _)) ⟨w7.heap.size, 0, none⟩ 1 1 [.int .i64 0] rfl rfl (news_one w7 _ _) (one_one _) (by unfold maxLen; omega) (by omega) (by simp; omega) ?_)
              intro v5z w5z hown1 hgrow _
              have HXz := hidH (show w5z.ownsRow w3.heap.size 3 1 v5z (zs.length + 1) (ints (gs ++ [(0 : Int)])) by rw [ints_append]; exact hown1)
              have QLz := hidH (Q7.out.trans (OntoB.of_below (r := w.heap.size) (base := w3.heap.size) (a := w7) (b := w5z) (((Below.refl w3.heap.size w7).alloc (by omega) _).grown hgrow (by simp; omega) (fun g hg => (W7.out.lt g hg).1))))
              have RLz := hidH (R7.out.low (((Below.refl (w.heap.size + 1) w7).alloc (by have := R7.out.lt; omega) _).grown hgrow (by simp; have := R7.out.lt; omega) (fun g hg => by have := (W7.out.lt g hg).1; omega)))
              clear hown1 hgrow
              go_wp2_with fail
              go_ret3
              exact ⟨_, zs, _, gs ++ [0], n, rfl, (row_ontoB HT3.out QLz.out (by omega) (Nat.le_refl _)).lies.top, (row_of_owns HXz.out).1.lies.top, hl9, by rw [List.length_append]; have := HLZ.out; simp only [List.length_cons, List.length_nil]; omega, hn0, hn1, fin8 B3.out QLz.out hr3⟩
            · have b9 : (y == 0) = false := beq_eq_false_iff_ne.2 f0
              clear f0
              go_wp2_with fail
              go_ret3
              exact ⟨_, zs, _, gs, n, rfl, (row_ontoB HT3.out Q7.out (by omega) (Nat.le_refl _)).lies.top, (row_of_owns W7.out).1.lies.top, hl9, by have := HLZ.out; omega, hn0, hn1, fin8 B3.out Q7.out hr3⟩
  · skip
    go_wp2_with fail
    go_loopw [8, 9] (fun o i wr => ∃ (k : Nat) (ov : Value) (gs : List Int), k ≤ zs.length ∧ gs.length = k ∧ i = .int .i64 k ∧ ov = o ∧ wr.ownsRow w3.heap.size 3 1 ov k (ints gs) ∧ Rd wr w.heap.size (100 + k) ∧ OntoB w.heap.size w3.heap.size w3 wr) (fun _ i _ => zs.length - (intOf i).toNat)
    case atStart => exact ⟨0, _, [], Nat.zero_le _, rfl, rfl, rfl, HO.out, (R3.out.onto ((Below.refl _ _).alloc (Nat.le_refl _) _)).more (by omega), OntoB.of_below ((Below.refl _ _).alloc (Nat.le_refl _) _)⟩
    case round =>
      obtain ⟨k, ov, gs, hk, hlz, rfl, rfl, hown, hrd, ho⟩ := hrel
      have HLZ := hidH hlz
      have HW := hidH hown
      have HR := hidH hrd
      have HQ := hidH ho
      have hsz : w3.heap.size ≤ wr.heap.size := ho.size
      clear hlz hown hrd ho HO
      by_cases hlt : k < zs.length
      · go_wp2_with fail
        refine (pick_any n w.heap.size _ wr HR.out (by omega)).mono ?_
        rintro e w4 ⟨x, rfl, x0, x1, hR, hO⟩
        have R4 := hidH hR
        have Q4 := hidH (HQ.out.trans (hO.toB hsz))
        have W4 := hidH (owns_onto HW.out hO (by omega))
        have hs4 := Q4.out.size
        clear x0 x1 hR hO
        go_wp2_with (at_builtin; refine wpList_append_own _ rfl _ _ 23 rfl w3.heap.size 3 i0 (.int .i64 0) 1 8 Try.underlying23 hi0 hz0 hz1 hz2 rfl (by decide) _ _ _ rfl (owns_below W4.out ((Below.refl _ w4).alloc (Nat.le_refl _) _)) ⟨w4.heap.size, 0, none⟩ 1 1 [.int .i64 x] rfl rfl (news_one w4 _ _) (one_one _) (by unfold maxLen; omega) (by omega) (by simp; omega) ?_)
        intro v5a w5a hown1 hgrow _
        have HXa := hidH (show w5a.ownsRow w3.heap.size 3 1 v5a (k + 1) (ints (gs ++ [x])) by rw [ints_append]; exact hown1)
        have QLa := hidH (Q4.out.trans (OntoB.of_below (r := w.heap.size) (base := w3.heap.size) (a := w4) (b := w5a) (((Below.refl w3.heap.size w4).alloc (by omega) _).grown hgrow (by simp; omega) (fun g hg => (W4.out.lt g hg).1))))
        have RLa := hidH (R4.out.low (((Below.refl (w.heap.size + 1) w4).alloc (by have := R4.out.lt; omega) _).grown hgrow (by simp; have := R4.out.lt; omega) (fun g hg => by have := (W4.out.lt g hg).1; omega)))
        clear hown1 hgrow
        go_wp2_with fail
        go_roundw
        case rel => exact ⟨k + 1, v5a, gs ++ [x], by omega, by rw [List.length_append, HLZ.out]; rfl, by go_num, rfl, HXa.out, RLa.out.more (by omega), QLa.out⟩
        case measure => simp [intOf]; omega
      · obtain rfl : k = zs.length := by omega
        by_cases hzl : 0 < zs.length
        rotate_left
        · obtain ⟨ad, cp, hov, hcp⟩ : ∃ (ad : Option Addr) (cp : Nat), ov = .slice ad zs.length cp ∧ cp ≤ 9223372036854775807 := by
            obtain ⟨hl, hv⟩ := HW.out
            rcases hv with ⟨h1, h2⟩ | ⟨g1, cap, cur, h1, _, _, _, hc, _, _⟩
            · exact ⟨none, 0, by rw [h2]; exact h1, by omega⟩
            · exact ⟨_, cap, h1, by unfold maxLen at hc; omega⟩
          subst hov
          go_wp2_with fail
          refine (pick_any 16 w.heap.size _ wr HR.out (by omega)).mono ?_
          rintro e w7 ⟨y, rfl, y0, y1, hR, hO⟩
          have R7 := hidH hR
          have Q7 := hidH (HQ.out.trans (hO.toB (by have := HQ.out.size; omega)))
          have W7 := hidH (owns_onto HW.out hO (by omega))
          have hs7 := Q7.out.size
          clear y0 y1 hR hO
          by_cases f0 : y = 0
          · have b9 : (y == 0) = true := beq_iff_eq.2 f0
            clear f0
            go_wp2_with (at_builtin; refine wpList_append_own _ rfl _ _ 23 rfl w3.heap.size 3 i0 (.int .i64 0) 1 8 Try.underlying23 hi0 hz0 hz1 hz2 rfl (by decide) _ _ _ rfl (owns_below W7.out ((Below.refl _ w7).alloc (Nat.le_refl _) _)) ⟨w7.heap.size, 0, none⟩ 1 1 [.int .i64 0] rfl rfl (news_one w7 _ _) (one_one _) (by unfold maxLen; omega) (by omega) (by simp; omega) ?_)
            intro v5z w5z hown1 hgrow _
            have HXz := hidH (show w5z.ownsRow w3.heap.size 3 1 v5z (zs.length + 1) (ints (gs ++ [(0 : Int)])) by rw [ints_append]; exact hown1)
            have QLz := hidH (Q7.out.trans (OntoB.of_below (r := w.heap.size) (base := w3.heap.size) (a := w7) (b := w5z) (((Below.refl w3.heap.size w7).alloc (by omega) _).grown hgrow (by simp; omega) (fun g hg => (W7.out.lt g hg).1))))
            have RLz := hidH (R7.out.low (((Below.refl (w.heap.size + 1) w7).alloc (by have := R7.out.lt; omega) _).grown hgrow (by simp; have := R7.out.lt; omega) (fun g hg => by have := (W7.out.lt g hg).1; omega)))
            clear hown1 hgrow
            go_wp2_with fail
            go_ret3
            exact ⟨_, zs, _, gs ++ [0], n, rfl, (row_ontoB HT3.out QLz.out (by omega) (Nat.le_refl _)).lies.top, (row_of_owns HXz.out).1.lies.top, hl9, by rw [List.length_append]; have := HLZ.out; simp only [List.length_cons, List.length_nil]; omega, hn0, hn1, fin8 B3.out QLz.out hr3⟩
          · have b9 : (y == 0) = false := beq_eq_false_iff_ne.2 f0
            clear f0
            go_wp2_with fail
            go_ret3
            exact ⟨_, zs, _, gs, n, rfl, (row_ontoB HT3.out Q7.out (by omega) (Nat.le_refl _)).lies.top, (row_of_owns W7.out).1.lies.top, hl9, by have := HLZ.out; omega, hn0, hn1, fin8 B3.out Q7.out hr3⟩
        · obtain ⟨gg, cap, rfl, hc1, hc2, hgb, _⟩ := owns_form HW.out (by omega)
          unfold maxLen at hc2
          have HG1 := hidH (show 0 < gs.length by have := HLZ.out; omega)
          go_wp2_with fail
          refine (pick_any 12 w.heap.size _ wr HR.out (by omega)).mono ?_
          rintro e w4 ⟨x, rfl, x0, x1, hR, hO⟩
          have R4 := hidH hR
          have Q4 := hidH (HQ.out.trans (hO.toB hsz))
          have W4 := hidH (owns_onto HW.out hO (by omega))
          have hs4 := Q4.out.size
          clear x0 x1 hR hO
          by_cases e0 : x = 0
          · have b0 : (x == 0) = true := beq_iff_eq.2 e0
            clear e0
            go_wp2_with fail
            have hN := num_any w4.heap.size 0 [-1, n, 9223372036854775807] w.heap.size _ (w4.alloc (.cells (intC [-1, n, 9223372036854775807]) 3)) (R4.out.onto ((Below.refl _ _).alloc (Nat.le_refl _) _)) (by omega) (by simp) (by simp) (ints_new _ _ _ _ R4.out.lt)
            refine hN.mono ?_
            rintro e w6 ⟨z, hz, rfl, hR, hO⟩
            have R6 := hidH hR
            have hOB := ((Onto.refl w.heap.size w4).alloc (.cells (intC [-1, n, 9223372036854775807]) 3)).trans hO
            have Q6 := hidH (Q4.out.trans (hOB.toB hs4))
            have W6 := hidH (owns_onto W4.out hOB (by omega))
            have hs6 := Q6.out.size
            clear hN hz hR hO hOB
            obtain ⟨y0, hy0⟩ := get_lt gs 0 HG1.out
            obtain ⟨bq, capq, hbe, _, _, _, _, hblk⟩ := (row_of_owns W6.out).1.blk HG1.out
            injection hbe with hb1 hb2 hb3
            injection hb1 with hb1
            injection hb1 with hb1
            subst hb1
            subst hb3
            obtain ⟨hcy, hfy⟩ := hblk.2 0 y0 hy0
            have WS := hidH (owns_store W6.out gg cap 0 rfl (.int .i64 z))
            rw [ints_set] at WS
            have RS := hidH (R6.out.low ((Below.refl (w.heap.size + 1) w6).setCell (p := ⟨gg, 0, none⟩) (by show w.heap.size + 1 ≤ gg; omega) (.int .i64 z)))
            have QS := hidH (Q6.out.trans (OntoB.of_below (r := w.heap.size) ((Below.refl w3.heap.size w6).setCell (p := ⟨gg, 0, none⟩) hgb (.int .i64 z))))
            have HSL := hidH (show (gs.set 0 z).length = zs.length by rw [List.length_set]; exact HLZ.out)
            clear hy0 hblk hb2
            go_wp2_with fail
            generalize w6.setCell ⟨gg, 0, none⟩ (.int .i64 z) = w6s at *
            refine (pick_any 16 w.heap.size _ w6s RS.out (by omega)).mono ?_
            rintro e w7 ⟨y, rfl, y0, y1, hR, hO⟩
            have R7 := hidH hR
            have Q7 := hidH (QS.out.trans (hO.toB (by have := QS.out.size; omega)))
            have W7 := hidH (owns_onto WS.out hO (by omega))
            have hs7 := Q7.out.size
            clear y0 y1 hR hO
            by_cases f0 : y = 0
            · have b9 : (y == 0) = true := beq_iff_eq.2 f0
              clear f0
              go_wp2_with (at_builtin; refine wpList_append_own _ rfl _ _ 23 rfl w3.heap.size 3 i0 (.int .i64 0) 1 8 Try.underlying23 hi0 hz0 hz1 hz2 rfl (by decide) _ _ _ rfl (owns_below W7.out ((Below.refl _ w7).alloc (Nat.le_refl _) _)) ⟨w7.heap.size, 0, none⟩ 1 1 [.int .i64 0] rfl rfl (news_one w7 _ _) (one_one _) (by unfold maxLen; omega) (by omega) (by simp; omega) ?_)
              intro v5z w5z hown1 hgrow _
              have HXz := hidH (show w5z.ownsRow w3.heap.size 3 1 v5z (zs.length + 1) (ints ((gs.set 0 z) ++ [(0 : Int)])) by rw [ints_append]; exact hown1)
              have QLz := hidH (Q7.out.trans (OntoB.of_below (r := w.heap.size) (base := w3.heap.size) (a := w7) (b := w5z) (((Below.refl w3.heap.size w7).alloc (by omega) _).grown hgrow (by simp; omega) (fun g hg => (W7.out.lt g hg).1))))
              have RLz := hidH (R7.out.low (((Below.refl (w.heap.size + 1) w7).alloc (by have := R7.out.lt; omega) _).grown hgrow (by simp; have := R7.out.lt; omega) (fun g hg => by have := (W7.out.lt g hg).1; omega)))
              clear hown1 hgrow
              go_wp2_with fail
              go_ret3
              exact ⟨_, zs, _, (gs.set 0 z) ++ [0], n, rfl, (row_ontoB HT3.out QLz.out (by omega) (Nat.le_refl _)).lies.top, (row_of_owns HXz.out).1.lies.top, hl9, by rw [List.length_append]; have := HSL.out; simp only [List.length_cons, List.length_nil]; omega, hn0, hn1, fin8 B3.out QLz.out hr3⟩
            · have b9 : (y == 0) = false := beq_eq_false_iff_ne.2 f0
              clear f0
              go_wp2_with fail
              go_ret3
              exact ⟨_, zs, _, (gs.set 0 z), n, rfl, (row_ontoB HT3.out Q7.out (by omega) (Nat.le_refl _)).lies.top, (row_of_owns W7.out).1.lies.top, hl9, by have := HSL.out; omega, hn0, hn1, fin8 B3.out Q7.out hr3⟩
          · have b0 : (x == 0) = false := beq_eq_false_iff_ne.2 e0
            clear e0
            go_wp2_with fail
            refine (pick_any 16 w.heap.size _ w4 R4.out (by omega)).mono ?_
            rintro e w7 ⟨y, rfl, y0, y1, hR, hO⟩
            have R7 := hidH hR
            have Q7 := hidH (Q4.out.trans (hO.toB (by have := Q4.out.size; omega)))
            have W7 := hidH (owns_onto W4.out hO (by omega))
            have hs7 := Q7.out.size
            clear y0 y1 hR hO
            by_cases f0 : y = 0
            · have b9 : (y == 0) = true := beq_iff_eq.2 f0
              clear f0
              go_wp2_with (at_builtin; refine wpList_append_own _ rfl _ _ 23 rfl w3.heap.size 3 i0 (.int .i64 0) 1 8 Try.underlying23 hi0 hz0 hz1 hz2 rfl (by decide) _ _ _ rfl (owns_below W7.out ((Below.refl _ w7).alloc (Nat.le_refl _) _)) ⟨w7.heap.size, 0, none⟩ 1 1 [.int .i64 0] rfl rfl (news_one w7 _ _) (one_one _) (by unfold maxLen; omega) (by omega) (by simp; omega) ?_)
              intro v5z w5z hown1 hgrow _
              have HXz := hidH (show w5z.ownsRow w3.heap.size 3 1 v5z (zs.length + 1) (ints (gs ++ [(0 : Int)])) by rw [ints_append]; exact hown1)
              have QLz := hidH (Q7.out.trans (OntoB.of_below (r := w.heap.size) (base := w3.heap.size) (a := w7) (b := w5z) (((Below.refl w3.heap.size w7).alloc (by omega) _).grown hgrow (by simp; omega) (fun g hg => (W7.out.lt g hg).1))))
              have RLz := hidH (R7.out.low (((Below.refl (w.heap.size + 1) w7).alloc (by have := R7.out.lt; omega) _).grown hgrow (by simp; have := R7.out.lt; omega) (fun g hg => by have := (W7.out.lt g hg).1; omega)))
              clear hown1 hgrow
              go_wp2_with fail
              go_ret3
              exact ⟨_, zs, _, gs ++ [0], n, rfl, (row_ontoB HT3.out QLz.out (by omega) (Nat.le_refl _)).lies.top, (row_of_owns HXz.out).1.lies.top, hl9, by rw [List.length_append]; have := HLZ.out; simp only [List.length_cons, List.length_nil]; omega, hn0, hn1, fin8 B3.out QLz.out hr3⟩
            · have b9 : (y == 0) = false := beq_eq_false_iff_ne.2 f0
              clear f0
              go_wp2_with fail
              go_ret3
              exact ⟨_, zs, _, gs, n, rfl, (row_ontoB HT3.out Q7.out (by omega) (Nat.le_refl _)).lies.top, (row_of_owns W7.out).1.lies.top, hl9, by have := HLZ.out; omega, hn0, hn1, fin8 B3.out Q7.out hr3⟩
end Go.Proofs.Ytcinhmfjnjecdaa
