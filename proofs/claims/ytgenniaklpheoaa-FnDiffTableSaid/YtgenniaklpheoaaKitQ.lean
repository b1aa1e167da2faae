/-
  Drawn slices that are sometimes no polynomials, and the arguments of functions on polynomials. Condition: the reader has been asked at most 800,000 times.
-/
import Derived.Test.YtgenniaklpheoaaKitP
namespace Go.Proofs.Ytgenniaklpheoaa
set_option maxRecDepth 4000
open Go.RowKit
theorem owns_form {w : World} {base e n : Nat} {v : Value} {xs : List Value} (H : w.ownsRow base e 1 v n xs) (h : 1 ≤ n) : ∃ g cap, v = .slice (some ⟨g, 0, none⟩) n cap ∧ n ≤ cap ∧ cap ≤ maxLen ∧ base ≤ g ∧ g < w.heap.size := by
  obtain ⟨_, ⟨_, h0⟩ | ⟨g, cap, cur, rfl, hg, hh, hn, hc, _, _⟩⟩ := H
  · omega
  · exact ⟨g, cap, rfl, hn, hc, hg, (Array.getElem?_eq_some_iff.1 hh).1⟩
/-- A drawn slice that is sometimes none. -/
def BadRow (r B base : Nat) (w : World) (e : Ending) (w' : World) : Prop := ∃ (v : Value) (zs : List Int), e = .returned v ∧ Row w' base w'.heap.size v zs ∧ zs.length ≤ 8 ∧ Rd w' r (B + 3) ∧ OntoB r base w w'
def badNums : List Int := [100000, 100001, -100000, -100001, 9223372036854775807]
set_option maxRecDepth 4000 in
set_option maxHeartbeats 1600000 in
theorem bad_any (r B base : Nat) (v : Value) (zs : List Int) (w : World) (h : Rd w r B) (hB : B ≤ 900000) (hown : w.ownsRow base 3 1 v zs.length (ints zs)) (h1 : 1 ≤ zs.length) (h7 : zs.length ≤ 7) (hr : r < base) (hbs : base ≤ w.heap.size) : Calls Try.prog 85 #[.pointer (some ⟨r, 0, none⟩), v] w (BadRow r B base w) := by
  obtain ⟨i0, hi0, hz0, hz1, hz2⟩ := info_parts infoInt
  obtain ⟨g, cap, rfl, hgc, hcm, hgb, hgw⟩ := owns_form hown h1
  have HW := hidH hown
  have HR := hidH h
  clear h hown
  unfold maxLen at hcm
  go_enter Try.func85, Try.ntmps85
  go_wp2_with fail
  refine (pick_any zs.length r B w HR.out (by omega)).mono ?_
  rintro e w1 ⟨x, rfl, x0, x1, hR1, hO1⟩
  have hx := x1 (by omega)
  have R1 := hidH hR1
  have O1 := hidH hO1
  have W1 := hidH (owns_onto HW.out hO1 hr)
  clear x1 hR1 hO1
  obtain ⟨k, rfl⟩ := Int.eq_ofNat_of_zero_le x0
  go_wp2_with fail
  refine (pick_any 40 r (B + 1) w1 R1.out (by omega)).mono ?_
  rintro e w2 ⟨t, rfl, t0, t1, hR2, hO2⟩
  have R2 := hidH hR2
  have O2 := hidH (O1.out.trans hO2)
  have W2 := hidH (owns_onto W1.out hO2 hr)
  have hs2 := O2.out.size
  clear t1 hR2 hO2
  by_cases e0 : t = 0
  · subst e0
    go_wp2_with fail
    have hN := num_any w2.heap.size 0 badNums r (B + 1 + 1) (w2.alloc (.cells (intC badNums) 3)) (R2.out.onto ((Below.refl _ _).alloc (Nat.le_refl _) _)) (by omega) (by decide) (by decide) (ints_new _ _ _ _ R2.out.lt)
    refine hN.mono ?_
    rintro e w3 ⟨z, hz, rfl, hR3, hO3⟩
    have R3 := hidH hR3
    have O3 := hidH (O2.out.trans (((Onto.refl r _).alloc (.cells (intC badNums) 3)).trans hO3))
    have W3 := hidH (owns_onto (owns_below W2.out ((Below.refl _ _).alloc (Nat.le_refl _) _)) hO3 hr)
    clear hN hz hR3 hO3
    obtain ⟨b, cap', hbe, hc1, hc2, hbb, hbh, hblk⟩ := (row_of_owns W3.out).1.blk (by omega)
    injection hbe with hb1 hb2 hb3
    injection hb1 with hb1
    injection hb1 with hb1
    subst hb1
    subst hb3
    have hkl : k < zs.length := by omega
    obtain ⟨y, hy⟩ := get_lt zs k hkl
    obtain ⟨hcy, hfy⟩ := hblk.2 k y hy
    have HBK := hidH (hblk.set k z)
    have hs3 := O3.out.size
    have HGH := hidH hbh
    clear hy hblk hc1 hc2 hbb hbh
    go_wp2_with fail
    go_ret
    refine ⟨_, zs.set k z, rfl, HBK.out.row hgb HBK.out.1 (by rw [List.length_set]; exact hgc) (by unfold maxLen; omega) (by rw [List.length_set]), by rw [List.length_set]; omega, ?_, ?_⟩
    · exact R3.out.low ((Below.refl (r + 1) w3).setCell (p := ⟨g, k, none⟩) (by show r + 1 ≤ g; omega) _)
    · exact (O3.out.toB hbs).trans (OntoB.of_below ((Below.refl base w3).setCell (p := ⟨g, k, none⟩) hgb _))
  · have c0 : (t == 0) = false := beq_eq_false_iff_ne.2 e0
    by_cases e1 : t = 1
    · subst e1
      clear e0
      go_wp2_with fail
      go_ret
      exact ⟨_, [], rfl, Row.nil _ _ _ _ _ (by unfold maxLen; omega) (fun h => by cases h), by simp, R2.out.more (by omega), O2.out.toB hbs⟩
    · have c1 : (t == 1) = false := beq_eq_false_iff_ne.2 e1
      by_cases e2 : t = 2
      · subst e2
        clear e0 e1
        go_wp2_with fail
        go_loopw [1] (fun p wr => ∃ (ys : List Int), 1 ≤ ys.length ∧ ys.length ≤ 8 ∧ lenOf p = ys.length ∧ wr.ownsRow base 3 1 p ys.length (ints ys) ∧ Rd wr r (B + 1 + 1) ∧ OntoB r base w wr ∧ base ≤ wr.heap.size) (fun p _ => 8 - lenOf p)
        case atStart => exact ⟨zs, h1, by omega, rfl, W2.out, R2.out, O2.out.toB hbs, by omega⟩
        case round =>
          obtain ⟨ys, hy1, hy8, hle, hown, hrd, ho, hbz⟩ := hrel
          obtain ⟨g2, cap2, rfl, hgc2, hcm2, hgb2, hgw2⟩ := owns_form hown hy1
          have WQ := hidH hown
          have RQ := hidH hrd
          have OQ := hidH ho
          clear hown hrd ho hle
          by_cases hlt : ys.length < 8
          · go_wp2_with (at_builtin; refine wpList_append_own _ rfl _ _ 23 rfl base 3 i0 (.int .i64 0) 1 8 Try.underlying23 hi0 hz0 hz1 hz2 rfl (by decide) _ ys.length (ints ys) rfl (WQ.out.alloc _) ⟨wr.heap.size, 0, none⟩ 1 1 [.int .i64 1] rfl rfl (news_one wr _ _) (one_one _) (by unfold maxLen; omega) (by omega) (by simp; omega) ?_)
            intro v' w5 hown1 hgrow _
            have HRo := hidH hown1
            have HBL := hidH (OntoB.of_below (r := r) (((Below.refl base wr).alloc hbz _).grown hgrow (by simp; omega) fun g hg => (WQ.out.lt g hg).1))
            have HRL := hidH (RQ.out.low (((Below.refl (r + 1) wr).alloc (by omega) _).grown hgrow (by simp; omega) fun g hg => by have := (WQ.out.lt g hg).1; omega))
            have HSZ := hidH hgrow.size
            obtain ⟨g5, cap5, e5, _⟩ := owns_form hown1 (by omega)
            have HL5 := hidH (show lenOf v' = ys.length + 1 by rw [e5]; rfl)
            clear hown1 hgrow e5
            go_wp2_with fail
            go_roundw
            case rel => exact ⟨ys ++ [1], by rw [List.length_append]; simp, by rw [List.length_append]; simp; omega, by rw [HL5.out, List.length_append]; rfl, by rw [List.length_append, ints_append]; exact HRo.out, HRL.out, OQ.out.trans HBL.out, by have := HSZ.out; simp at this; omega⟩
            case measure => rw [HL5.out]; show _ < 8 - ys.length; omega
          · have h8 : ys.length = 8 := by omega
            have H8 := hidH h8
            clear h8
            go_wp2_with fail
            go_ret
            exact ⟨_, ys, rfl, (row_of_owns WQ.out).1, hy8, RQ.out.more (by omega), OQ.out⟩
      · have c2 : (t == 2) = false := beq_eq_false_iff_ne.2 e2
        clear e0 e1 e2
        go_wp2_with fail
        go_ret
        exact ⟨_, zs, rfl, (row_of_owns W2.out).1, by omega, R2.out.more (by omega), O2.out.toB hbs⟩
/-- A drawn slice that is sometimes no polynomial. -/
def OpenRow (r B : Nat) (w : World) (e : Ending) (w' : World) : Prop := ∃ (v : Value) (zs : List Int), e = .returned v ∧ Row w' w.heap.size w'.heap.size v zs ∧ zs.length ≤ 8 ∧ Rd w' r (B + 18) ∧ Onto r w w'
theorem open2_any (r B : Nat) (w : World) (h : Rd w r B) (hB : B ≤ 800000) : Calls Try.prog 54 #[.pointer (some ⟨r, 0, none⟩)] w (OpenRow r B w) := by
  have HR := hidH h
  have hr := h.lt
  clear h
  go_enter Try.func54, Try.ntmps54
  go_wp2_with fail
  refine (some_any r B w HR.out (by omega)).mono ?_
  rintro e w1 ⟨v, zs, rfl, hown, h1, h6, hR1, hO1⟩
  have R1 := hidH hR1
  have O1 := hidH hO1
  have W1 := hidH hown
  have hs1 := hO1.size
  clear hR1 hO1 hown
  go_wp2_with fail
  refine (bad_any r (B + 15) w.heap.size v zs w1 R1.out (by omega) W1.out h1 (by omega) hr hs1).mono ?_
  rintro e w2 ⟨v2, ys, rfl, hrow, h8, hR2, hO2⟩
  have R2 := hidH hR2
  have RW := hidH hrow
  have O2 := hidH hO2
  clear hR2 hrow hO2
  go_wp2_with fail
  go_ret
  exact ⟨v2, ys, rfl, RW.out, h8, R2.out.more (by omega), ((O1.out.toB (Nat.le_refl _)).trans O2.out).onto⟩
end Go.Proofs.Ytgenniaklpheoaa
