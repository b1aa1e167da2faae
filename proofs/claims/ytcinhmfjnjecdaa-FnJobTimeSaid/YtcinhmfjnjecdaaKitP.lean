/-
  The reader of drawn inputs: numbers, polynomials, and slices that are sometimes none. Condition: the reader has been asked at most 900,000 times.
  Drawn slices that are sometimes no polynomials, and the arguments of functions on polynomials. Condition: the reader has been asked at most 800,000 times.
  The drawn arguments of functions on polynomials. Condition: at most 1048576 bytes.
  The draw of MulPolys' arguments. No conditions but that the bytes that came in can be read.
  The draw of ValuesOf's arguments. No conditions but that the bytes that came in can be read.
-/
import Derived.Test.YtcinhmfjnjecdaaKitA
import Derived.Test.YtcinhmfjnjecdaaSl
import Derived.Laws.AppendOwn
import Derived.Laws.OwnMore
import Derived.OwnWalk
namespace Go.Proofs.Ytcinhmfjnjecdaa
set_option maxRecDepth 4000
open Go.RowKit
/-- Blocks below base stand but for block r, and new blocks may have come. -/
structure OntoB (r base : Nat) (w w' : World) : Prop where
  os : w'.os = w.os
  tape : w'.tape = w.tape
  output : w'.output = w.output
  size : w.heap.size ≤ w'.heap.size
  block : ∀ k, k < base → k ≠ r → w'.heap[k]? = w.heap[k]?
theorem Onto.toB {r base : Nat} {w w' : World} (h : Onto r w w') (hb : base ≤ w.heap.size) : OntoB r base w w' := ⟨h.os, h.tape, h.output, h.size, fun k hk hr => h.block k (by omega) hr⟩
theorem OntoB.onto {r : Nat} {w w' : World} (h : OntoB r w.heap.size w w') : Onto r w w' := ⟨h.os, h.tape, h.output, h.size, h.block⟩
theorem OntoB.trans {r base : Nat} {a b c : World} (h : OntoB r base a b) (k : OntoB r base b c) : OntoB r base a c :=
  ⟨k.os.trans h.os, k.tape.trans h.tape, k.output.trans h.output, Nat.le_trans h.size k.size, fun j hj hr => (k.block j hj hr).trans (h.block j hj hr)⟩
theorem OntoB.of_below {r base : Nat} {a b : World} (h : Below base a b) : OntoB r base a b := ⟨h.os, h.tape, h.output, h.size, fun k hk _ => h.block k hk⟩
theorem OntoB.down {r base c : Nat} {a b : World} (h : OntoB r base a b) (hc : c ≤ base) : OntoB r c a b := ⟨h.os, h.tape, h.output, h.size, fun k hk hr => h.block k (by omega) hr⟩
theorem Rd.low {w w' : World} {r B : Nat} (h : Rd w r B) (hb : Below (r + 1) w w') : Rd w' r B := by
  obtain ⟨a, len, cap, p, hp, hl, hr, h0, h1, hf, hd⟩ := h
  refine ⟨a, len, cap, p, hp, hl, Nat.lt_of_lt_of_le hr hb.size, ?_, ?_, ?_, fun j hj => ?_⟩
  · rw [hb.cell (p := ⟨r, 0, none⟩) (Nat.lt_succ_self r)]; exact h0
  · rw [hb.cell (p := ⟨r, 1, none⟩) (Nat.lt_succ_self r)]; exact h1
  · rw [hb.frozen (p := ⟨r, 1, none⟩) (Nat.lt_succ_self r)]; exact hf
  · obtain ⟨b, off, x, e, hlt, x1, x2, hc⟩ := hd j hj
    exact ⟨b, off, x, e, hlt, x1, x2, by rw [hb.cell (p := ⟨b, off + j, none⟩) (by show b < _; omega)]; exact hc⟩
theorem owns_onto {w w' : World} {r base e size n : Nat} {v : Value} {xs : List Value} (H : w.ownsRow base e size v n xs) (ho : Onto r w w') (hr : r < base) : w'.ownsRow base e size v n xs := by
  have hg : w.grownBy w' (some r) := ⟨ho.os, ho.tape, ho.output, ho.size, fun k hk hne => ho.block k hk (fun h => hne (by rw [h]))⟩
  refine H.kept hg ?_
  cases hv : v.ownBlock with
  | none => exact .inl rfl
  | some g => exact .inr (fun h => by injection h with h; have := (H.lt g hv).1; omega)
/-- A drawn number. -/
def NumD (r B : Nat) (w : World) (e : Ending) (w' : World) : Prop := ∃ z : Int, e = .returned (.int .i64 z) ∧ Rd w' r (B + 3) ∧ Onto r w w'
def farNums : List Int := [200, 201, -200, -201, 9223372036854775807, -9223372036854775808]
def sizes4 : List Int := [10, 100, 1000, 3]
/-- A drawn row of numbers. -/
def SomeRow (r B : Nat) (w : World) (e : Ending) (w' : World) : Prop := ∃ (v : Value) (zs : List Int), e = .returned v ∧ w'.ownsRow w.heap.size 3 1 v zs.length (ints zs) ∧ 1 ≤ zs.length ∧ zs.length ≤ 6 ∧ Rd w' r (B + 15) ∧ Onto r w w'
theorem prod_65025 (x y : Int) (x0 : 0 ≤ x) (x1 : x < 256) (y0 : 0 ≤ y) (y1 : y < 256) : 0 ≤ x * y ∧ x * y ≤ 65025 := by
  have h := Int.mul_nonneg x0 y0
  have h2 : (x * y).natAbs ≤ 255 * 255 := by rw [Int.natAbs_mul]; exact Nat.mul_le_mul (by omega) (by omega)
  omega
set_option maxHeartbeats 1600000 in
theorem pSome_any (r B : Nat) (w : World) (h : Rd w r B) (hB : B ≤ 900000) : Calls Try.prog 79 #[.pointer (some ⟨r, 0, none⟩)] w (SomeRow r B w) := by
  obtain ⟨i0, hi0, hz0, hz1, hz2⟩ := info_parts infoInt
  have hr := h.lt
  have HO := hidH (World.ownsRow_made (base := w.heap.size) (e := 3) (size := 1) w #[] 0 (Nat.le_refl _) (Nat.zero_le _) rfl)
  have HR0 := hidH (h.onto ((Below.refl _ _).alloc (Nat.le_refl _) (.cells #[] 3)))
  clear h
  go_enter Try.func79, Try.ntmps79
  go_wp2_with fail
  have hN := num_any (w.heap.size + 1) 0 sizes4 r B ((w.alloc (.cells #[] 3)).alloc (.cells (intC sizes4) 3)) (HR0.out.onto ((Below.refl _ _).alloc (Nat.le_refl _) _)) (by omega) (by decide) (by decide) (by have := ints_new (w.alloc (.cells #[] 3)) r 3 sizes4 HR0.out.lt; simpa using this)
  refine hN.mono ?_
  rintro e w1 ⟨sz, hsz, rfl, hR1, hO1⟩
  have hs : 3 ≤ sz ∧ sz ≤ 1000 := by
    have h : sizes4.all (fun z => decide (3 ≤ z ∧ z ≤ 1000)) = true := by decide
    exact of_decide_eq_true (List.all_eq_true.1 h sz hsz)
  obtain ⟨s1, s2⟩ := hs
  have H1 := hidH hR1
  have O1 := hidH (((Onto.refl r w).alloc (.cells #[] 3)).trans (((Onto.refl r _).alloc (.cells (intC sizes4) 3)).trans hO1))
  have W1 := hidH (owns_onto (owns_below HO.out ((Below.refl _ _).alloc (Nat.le_refl _) _)) hO1 hr)
  clear hN hsz hR1 hO1
  go_wp2_with fail
  refine (pick_any 5 r (B + 1) w1 H1.out (by omega)).mono ?_
  rintro e w2 ⟨y, rfl, y0, y1, hR2, hO2⟩
  have H2 := hidH hR2
  have O2 := hidH (O1.out.trans hO2)
  have W2 := hidH (owns_onto W1.out hO2 hr)
  have y2 := y1 (by omega)
  clear y1 hR2 hO2
  obtain ⟨q, rfl⟩ := Int.eq_ofNat_of_zero_le y0
  go_wp2_with fail
  go_loopw [3, 5] (fun o i wr => ∃ (k j : Nat) (ov : Value) (zs : List Int), k + j = 1 + q ∧ zs.length = k ∧ i = .int .i64 j ∧ ov = o ∧ wr.ownsRow w.heap.size 3 1 ov k (ints zs) ∧ Rd wr r (B + 2 + 2 * k) ∧ Onto r w wr) (fun _ i _ => (intOf i).toNat)
  case atStart => exact ⟨0, 1 + q, _, [], by omega, rfl, by simp, rfl, W2.out, H2.out, O2.out⟩
  case round =>
    obtain ⟨k, j, ov, zs, hkj, hlz, rfl, rfl, hown, hrd, ho⟩ := hrel
    have HKJ := hidH hkj
    have HLZ := hidH hlz
    have HWq := hidH hown
    have HRq := hidH hrd
    have HOq := hidH ho
    have hk5 : k + j ≤ 5 := by omega
    clear hkj hlz hown hrd ho
    by_cases hlt : 0 < j
    · go_wp2_with fail
      refine (pick_any 256 r _ _ HRq.out (by omega)).mono ?_
      rintro e w3 ⟨a, rfl, a0, a1, hR3, hO3⟩
      have a2 := a1 (by omega)
      have H3 := hidH hR3
      have O3 := hidH (HOq.out.trans hO3)
      have W3 := hidH (owns_onto HWq.out hO3 hr)
      clear a1 hR3 hO3
      go_wp2_with fail
      refine (pick_any 256 r _ _ H3.out (by omega)).mono ?_
      rintro e w4 ⟨b, rfl, b0, b1, hR4, hO4⟩
      have b2 := b1 (by omega)
      have H4 := hidH hR4
      have O4 := hidH (O3.out.trans hO4)
      have W4 := hidH (owns_onto W3.out hO4 hr)
      have hs4 := O4.out.size
      clear b1 hR4 hO4
      have ⟨p1, p2⟩ := prod_65025 a b a0 a2 b0 b2
      have q1 := Int.emod_nonneg (a * b) (show 2 * sz + 1 ≠ 0 by omega)
      have q2 := Int.emod_lt_of_pos (a * b) (show 0 < 2 * sz + 1 by omega)
      go_wp2_with (at_builtin; refine wpList_append_own _ rfl _ _ 23 rfl w.heap.size 3 i0 (.int .i64 0) 1 8 Try.underlying23 hi0 hz0 hz1 hz2 rfl (by decide) ov k (ints zs) rfl (W4.out.alloc _) ⟨w4.heap.size, 0, none⟩ 1 1 [.int .i64 (a * b % (2 * sz + 1) - sz)] rfl rfl (news_one w4 _ _) (one_one _) (by unfold maxLen; omega) (by omega) (by simp; omega) ?_)
      intro v' w5 hown1 hgrow _
      have HR := hidH hown1
      have hbel : OntoB r w.heap.size w4 w5 := OntoB.of_below (((Below.refl w.heap.size w4).alloc hs4 _).grown hgrow (by simp; omega) fun g hg => (W4.out.lt g hg).1)
      have HBL := hidH hbel
      have hrl : Rd w5 r (B + 2 + 2 * k + 1 + 1) := H4.out.low (((Below.refl (r + 1) w4).alloc (by have := H4.out.lt; omega) _).grown hgrow (by simp; have := H4.out.lt; omega) fun g hg => by have := (W4.out.lt g hg).1; omega)
      have HRL := hidH hrl
      clear hown1 hgrow hbel hrl
      go_wp2_with fail
      go_roundw
      case rel =>
        have hkj := HKJ.out
        refine ⟨k + 1, j - 1, v', zs ++ [a * b % (2 * sz + 1) - sz], by omega, by rw [List.length_append, HLZ.out]; rfl, by rw [show ((j - 1 : Nat) : Int) = (j : Int) - 1 by omega], rfl, by rw [ints_append]; exact HR.out, HRL.out.more (by omega), ((O4.out.toB (Nat.le_refl _)).trans HBL.out).onto⟩
      case measure => simp [intOf]; omega
    · obtain rfl : j = 0 := by omega
      have hk1 : k = 1 + q := by have := HKJ.out; omega
      have HK1 := hidH hk1
      have hk6 : 1 ≤ k ∧ k ≤ 5 := by omega
      obtain ⟨k1, k5⟩ := hk6
      clear hk1
      go_wp2_with fail
      refine (pick_any 5 r _ _ HRq.out (by omega)).mono ?_
      rintro e w3 ⟨a, rfl, a0, a1, hR3, hO3⟩
      have H3 := hidH hR3
      have O3 := hidH (HOq.out.trans hO3)
      have W3 := hidH (owns_onto HWq.out hO3 hr)
      have hs3 := O3.out.size
      clear a1 hR3 hO3
      by_cases e0 : a = 0
      · have b0 : (a == 0) = true := beq_iff_eq.2 e0
        clear e0
        go_wp2_with (at_builtin; refine wpList_append_own _ rfl _ _ 23 rfl w.heap.size 3 i0 (.int .i64 0) 1 8 Try.underlying23 hi0 hz0 hz1 hz2 rfl (by decide) ov k (ints zs) rfl (W3.out.alloc _) ⟨w3.heap.size, 0, none⟩ 1 1 [.int .i64 0] rfl rfl (news_one w3 _ _) (one_one _) (by unfold maxLen; omega) (by omega) (by simp; omega) ?_)
        intro v' w5 hown1 hgrow _
        have HR := hidH hown1
        have hbel : OntoB r w.heap.size w3 w5 := OntoB.of_below (((Below.refl w.heap.size w3).alloc hs3 _).grown hgrow (by simp; omega) fun g hg => (W3.out.lt g hg).1)
        have HBL := hidH hbel
        have hrl : Rd w5 r (B + 2 + 2 * k + 1) := H3.out.low (((Below.refl (r + 1) w3).alloc (by have := H3.out.lt; omega) _).grown hgrow (by simp; have := H3.out.lt; omega) fun g hg => by have := (W3.out.lt g hg).1; omega)
        have HRL := hidH hrl
        clear hown1 hgrow hbel hrl
        go_wp2_with fail
        go_ret
        exact ⟨v', zs ++ [0], rfl, by rw [ints_append, List.length_append, HLZ.out]; exact HR.out, by rw [List.length_append]; simp, by rw [List.length_append, HLZ.out]; simp; omega, HRL.out.more (by omega), ((O3.out.toB (Nat.le_refl _)).trans HBL.out).onto⟩
      · have b0 : (a == 0) = false := beq_eq_false_iff_ne.2 e0
        clear e0
        go_wp2_with fail
        go_ret
        exact ⟨ov, zs, rfl, by rw [HLZ.out]; exact W3.out, by rw [HLZ.out]; exact k1, by rw [HLZ.out]; omega, H3.out.more (by omega), O3.out⟩
end Go.Proofs.Ytcinhmfjnjecdaa
namespace Go.Proofs.Ytcinhmfjnjecdaa
set_option maxRecDepth 4000
open Go.RowKit
theorem owns_form {w : World} {base e n : Nat} {v : Value} {xs : List Value} (H : w.ownsRow base e 1 v n xs) (h : 1 ≤ n) : ∃ g cap, v = .slice (some ⟨g, 0, none⟩) n cap ∧ n ≤ cap ∧ cap ≤ maxLen ∧ base ≤ g ∧ g < w.heap.size := by
  obtain ⟨_, ⟨_, h0⟩ | ⟨g, cap, cur, rfl, hg, hh, hn, hc, _, _⟩⟩ := H
  · omega
  · exact ⟨g, cap, rfl, hn, hc, hg, (Array.getElem?_eq_some_iff.1 hh).1⟩
/-- A drawn slice that is sometimes none. -/
def BadRow (r B base : Nat) (w : World) (e : Ending) (w' : World) : Prop := ∃ (v : Value) (zs : List Int), e = .returned v ∧ Row w' base w'.heap.size v zs ∧ zs.length ≤ 8 ∧ Rd w' r (B + 3) ∧ OntoB r base w w'
def badNums : List Int := [100000, 100001, -100000, -100001, 9223372036854775807]
set_option maxRecDepth 4000 in
set_option maxHeartbeats 1600000 in
theorem pBad_any (r B base : Nat) (v : Value) (zs : List Int) (w : World) (h : Rd w r B) (hB : B ≤ 900000) (hown : w.ownsRow base 3 1 v zs.length (ints zs)) (h1 : 1 ≤ zs.length) (h7 : zs.length ≤ 7) (hr : r < base) (hbs : base ≤ w.heap.size) : Calls Try.prog 77 #[.pointer (some ⟨r, 0, none⟩), v] w (BadRow r B base w) := by
  obtain ⟨i0, hi0, hz0, hz1, hz2⟩ := info_parts infoInt
  obtain ⟨g, cap, rfl, hgc, hcm, hgb, hgw⟩ := owns_form hown h1
  have HW := hidH hown
  have HR := hidH h
  clear h hown
  unfold maxLen at hcm
  go_enter Try.func77, Try.ntmps77
  go_wp2_with fail
  refine (pick_any zs.length r B w HR.out (by omega)).mono ?_
  rintro e w1 ⟨x, rfl, x0, x1, hR1, hO1⟩
  have hx := x1 (by omega)
  have R1 := hidH hR1
  have O1 := hidH hO1
  have W1 := hidH (owns_onto HW.out hO1 hr)
  clear x1 hR1 hO1
  obtain ⟨k, rfl⟩ := Int.eq_ofNat_of_zero_le x0
  go_wp2_with fail
  refine (pick_any 40 r (B + 1) w1 R1.out (by omega)).mono ?_
  rintro e w2 ⟨t, rfl, t0, t1, hR2, hO2⟩
  have R2 := hidH hR2
  have O2 := hidH (O1.out.trans hO2)
  have W2 := hidH (owns_onto W1.out hO2 hr)
  have hs2 := O2.out.size
  clear t1 hR2 hO2
  by_cases e0 : t = 0
  · subst e0
    go_wp2_with fail
    have hN := num_any w2.heap.size 0 badNums r (B + 1 + 1) (w2.alloc (.cells (intC badNums) 3)) (R2.out.onto ((Below.refl _ _).alloc (Nat.le_refl _) _)) (by omega) (by decide) (by decide) (ints_new _ _ _ _ R2.out.lt)
    refine hN.mono ?_
    rintro e w3 ⟨z, hz, rfl, hR3, hO3⟩
    have R3 := hidH hR3
    have O3 := hidH (O2.out.trans (((Onto.refl r _).alloc (.cells (intC badNums) 3)).trans hO3))
    have W3 := hidH (owns_onto (owns_below W2.out ((Below.refl _ _).alloc (Nat.le_refl _) _)) hO3 hr)
    clear hN hz hR3 hO3
    obtain ⟨b, cap', hbe, hc1, hc2, hbb, hbh, hblk⟩ := (row_of_owns W3.out).1.blk (by omega)
    injection hbe with hb1 hb2 hb3
    injection hb1 with hb1
    injection hb1 with hb1
    subst hb1
    subst hb3
    have hkl : k < zs.length := by omega
    obtain ⟨y, hy⟩ := get_lt zs k hkl
    obtain ⟨hcy, hfy⟩ := hblk.2 k y hy
    have HBK := hidH (hblk.set k z)
    have hs3 := O3.out.size
    have HGH := hidH hbh
    clear hy hblk hc1 hc2 hbb hbh
    go_wp2_with fail
    go_ret
    refine ⟨_, zs.set k z, rfl, HBK.out.row hgb HBK.out.1 (by rw [List.length_set]; exact hgc) (by unfold maxLen; omega) (by rw [List.length_set]), by rw [List.length_set]; omega, ?_, ?_⟩
    · exact R3.out.low ((Below.refl (r + 1) w3).setCell (p := ⟨g, k, none⟩) (by show r + 1 ≤ g; omega) _)
    · exact (O3.out.toB hbs).trans (OntoB.of_below ((Below.refl base w3).setCell (p := ⟨g, k, none⟩) hgb _))
  · have c0 : (t == 0) = false := beq_eq_false_iff_ne.2 e0
    by_cases e1 : t = 1
    · subst e1
      clear e0
      go_wp2_with fail
      go_ret
      exact ⟨_, [], rfl, Row.nil _ _ _ _ _ (by unfold maxLen; omega) (fun h => by cases h), by simp, R2.out.more (by omega), O2.out.toB hbs⟩
    · have c1 : (t == 1) = false := beq_eq_false_iff_ne.2 e1
      by_cases e2 : t = 2
      · subst e2
        clear e0 e1
        go_wp2_with fail
        go_loopw [1] (fun p wr => ∃ (ys : List Int), 1 ≤ ys.length ∧ ys.length ≤ 8 ∧ lenOf p = ys.length ∧ wr.ownsRow base 3 1 p ys.length (ints ys) ∧ Rd wr r (B + 1 + 1) ∧ OntoB r base w wr ∧ base ≤ wr.heap.size) (fun p _ => 8 - lenOf p)
        case atStart => exact ⟨zs, h1, by omega, rfl, W2.out, R2.out, O2.out.toB hbs, by omega⟩
        case round =>
          obtain ⟨ys, hy1, hy8, hle, hown, hrd, ho, hbz⟩ := hrel
          obtain ⟨g2, cap2, rfl, hgc2, hcm2, hgb2, hgw2⟩ := owns_form hown hy1
          have WQ := hidH hown
          have RQ := hidH hrd
          have OQ := hidH ho
          clear hown hrd ho hle
          by_cases hlt : ys.length < 8
          · go_wp2_with (at_builtin; refine wpList_append_own _ rfl _ _ 23 rfl base 3 i0 (.int .i64 0) 1 8 Try.underlying23 hi0 hz0 hz1 hz2 rfl (by decide) _ ys.length (ints ys) rfl (WQ.out.alloc _) ⟨wr.heap.size, 0, none⟩ 1 1 [.int .i64 1] rfl rfl (news_one wr _ _) (one_one _) (by unfold maxLen; omega) (by omega) (by simp; omega) ?_)
            intro v' w5 hown1 hgrow _
            have HRo := hidH hown1
            have HBL := hidH (OntoB.of_below (r := r) (((Below.refl base wr).alloc hbz _).grown hgrow (by simp; omega) fun g hg => (WQ.out.lt g hg).1))
            have HRL := hidH (RQ.out.low (((Below.refl (r + 1) wr).alloc (by omega) _).grown hgrow (by simp; omega) fun g hg => by have := (WQ.out.lt g hg).1; omega))
            have HSZ := hidH hgrow.size
            obtain ⟨g5, cap5, e5, _⟩ := owns_form hown1 (by omega)
            have HL5 := hidH (show lenOf v' = ys.length + 1 by rw [e5]; rfl)
            clear hown1 hgrow e5
            go_wp2_with fail
            go_roundw
            case rel => exact ⟨ys ++ [1], by rw [List.length_append]; simp, by rw [List.length_append]; simp; omega, by rw [HL5.out, List.length_append]; rfl, by rw [List.length_append, ints_append]; exact HRo.out, HRL.out, OQ.out.trans HBL.out, by have := HSZ.out; simp at this; omega⟩
            case measure => rw [HL5.out]; show _ < 8 - ys.length; omega
          · have h8 : ys.length = 8 := by omega
            have H8 := hidH h8
            clear h8
            go_wp2_with fail
            go_ret
            exact ⟨_, ys, rfl, (row_of_owns WQ.out).1, hy8, RQ.out.more (by omega), OQ.out⟩
      · have c2 : (t == 2) = false := beq_eq_false_iff_ne.2 e2
        clear e0 e1 e2
        go_wp2_with fail
        go_ret
        exact ⟨_, zs, rfl, (row_of_owns W2.out).1, by omega, R2.out.more (by omega), O2.out.toB hbs⟩
/-- A drawn slice that is sometimes no polynomial. -/
def OpenRow (r B : Nat) (w : World) (e : Ending) (w' : World) : Prop := ∃ (v : Value) (zs : List Int), e = .returned v ∧ Row w' w.heap.size w'.heap.size v zs ∧ zs.length ≤ 8 ∧ Rd w' r (B + 18) ∧ Onto r w w'
end Go.Proofs.Ytcinhmfjnjecdaa
namespace Go.Proofs.Ytcinhmfjnjecdaa
set_option maxRecDepth 4000
open Go.RowKit
/-- A drawn slice. -/
def Draw1 (w : World) (e : Ending) (w' : World) : Prop := ∃ (v : Value) (zs : List Int), e = .returned v ∧ Row w' w.heap.size w'.heap.size v zs ∧ zs.length ≤ 8 ∧ Below w.heap.size w w'
/-- A drawn slice and a drawn number. -/
def Draw1n (w : World) (e : Ending) (w' : World) : Prop := ∃ (v : Value) (zs : List Int) (n : Int), e = .returned (.tuple #[v, .int .i64 n]) ∧ Row w' w.heap.size w'.heap.size v zs ∧ zs.length ≤ 8 ∧ Below w.heap.size w w'
/-- Two drawn slices, apart from each other. -/
def Draw2 (w : World) (e : Ending) (w' : World) : Prop := ∃ (v u : Value) (zs ys : List Int) (m : Nat), e = .returned (.tuple #[v, u]) ∧ Row w' w.heap.size m v zs ∧ Row w' m w'.heap.size u ys ∧ zs.length ≤ 8 ∧ ys.length ≤ 8 ∧ m ≤ w'.heap.size ∧ Below w.heap.size w w'
/-- Two drawn numbers. -/
def DrawNN (w : World) (e : Ending) (w' : World) : Prop := ∃ n k : Int, e = .returned (.tuple #[.int .i64 n, .int .i64 k]) ∧ Below w.heap.size w w'
theorem opened_any (a : Option Addr) (len cap : Nat) (w : World) (hc : Came w a len cap) (hl : len ≤ 1048576) : Calls Try.prog 26 #[.slice a len cap] w (Opened w) :=
  open_any a len cap w hl hc.lenLe (by have := hc.capLe; unfold maxLen at this; omega) hc.bytes hc.ofNil
theorem row_onto {w w' : World} {r l h : Nat} {v : Value} {zs : List Int} (H : Row w l h v zs) (ho : Onto r w w') (hr : r < l) : Row w' l h v zs := H.apart (Apart.of_onto ho (Nat.le_refl _) (Nat.lt_succ_self _)) (.inr (by omega))
def sumNums : List Int := [100000, 100001, -100001, 9223372036854775807]
def stepNums : List Int := [0, 10, 11, -1]
def binNums : List Int := [-1, 7, 9223372036854775807]
end Go.Proofs.Ytcinhmfjnjecdaa
namespace Go.Proofs.Ytcinhmfjnjecdaa
set_option maxRecDepth 4000
open Go.RowKit
/-- Two drawn rows of numbers, which may lie in longer ones. -/
def Draw2L (w : World) (e : Ending) (w' : World) : Prop := ∃ (v u : Value) (zs ys : List Int), e = .returned (.tuple #[v, u]) ∧ Lies w' 0 w'.heap.size v zs ∧ Lies w' 0 w'.heap.size u ys ∧ zs.length ≤ 8 ∧ ys.length ≤ 8 ∧ Below w.heap.size w w'
end Go.Proofs.Ytcinhmfjnjecdaa
namespace Go.Proofs.Ytcinhmfjnjecdaa
set_option maxRecDepth 4000
open Go.RowKit
def Draw1nn (w : World) (e : Ending) (w' : World) : Prop := ∃ (v : Value) (zs : List Int) (n c : Int), e = .returned (.tuple #[v, .int .i64 n, .int .i64 c]) ∧ Row w' w.heap.size w'.heap.size v zs ∧ zs.length ≤ 8 ∧ Below w.heap.size w w'
def cntNums : List Int := [-1, 60, 61, 9223372036854775807]
end Go.Proofs.Ytcinhmfjnjecdaa
