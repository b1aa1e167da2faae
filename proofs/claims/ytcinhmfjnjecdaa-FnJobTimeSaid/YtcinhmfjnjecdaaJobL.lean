/-
  The draw of a polynomial that is sometimes none, with the blocks that it leaves alone. No conditions but that the bytes that came in can be read.
-/
import Derived.Test.YtcinhmfjnjecdaaJobK
import Derived.Deep.AppendLies
namespace Go.Proofs.Ytcinhmfjnjecdaa
set_option maxRecDepth 4000
open Go.RowKit
/-- What may have changed: block r, block g and what is new. -/
structure OntoG (r g : Nat) (w w' : World) : Prop where
  os : w'.os = w.os
  tape : w'.tape = w.tape
  output : w'.output = w.output
  size : w.heap.size ≤ w'.heap.size
  block : ∀ k, k < w.heap.size → k ≠ r → k ≠ g → w'.heap[k]? = w.heap[k]?
theorem Onto.toG {r : Nat} {w w' : World} (h : Onto r w w') (g : Nat) : OntoG r g w w' := ⟨h.os, h.tape, h.output, h.size, fun k hk hr _ => h.block k hk hr⟩
theorem OntoG.set {r g : Nat} {w w' : World} (h : OntoG r g w w') (k : Nat) (v : Value) : OntoG r g w (w'.setCell ⟨g, k, none⟩ v) :=
  ⟨h.os, h.tape, h.output, by simpa using h.size, fun j hj hr hg => by rw [heap_setCell_other _ _ _ _ hg]; exact h.block j hj hr hg⟩
theorem OntoG.grow {r g g2 : Nat} {a w w5 : World} {o : Obj} (h : OntoG r g a w) (hg : (w.alloc o).grownBy w5 (some g2)) (h2 : g2 = g ∨ a.heap.size ≤ g2) : OntoG r g a w5 := by
  have h1 := h.size
  have h3 := hg.size
  have h4 : (w.alloc o).heap.size = w.heap.size + 1 := by simp
  refine ⟨hg.os.trans h.os, hg.tape.trans h.tape, hg.output.trans h.output, by omega, fun k hk hr hne => ?_⟩
  rw [hg.block k (by omega) (by intro e; injection e with e; omega), heap_alloc_old w o (by omega)]
  exact h.block k hk hr hne
/-- A drawn row, sometimes no polynomial: only the reader's block and the row's old block may have changed. -/
def BadRowG (r B base g : Nat) (w : World) (e : Ending) (w' : World) : Prop := ∃ (v : Value) (zs : List Int) (lo hi : Nat), e = .returned v ∧ Row w' lo hi v zs ∧ (lo = g ∧ hi = g + 1 ∨ w.heap.size ≤ lo) ∧ base ≤ lo ∧ hi ≤ w'.heap.size ∧ zs.length ≤ 8 ∧ Rd w' r (B + 3) ∧ OntoG r g w w'
theorem row_g {w : World} {base g cap : Nat} {zs : List Int} (H : w.ownsRow base 3 1 (.slice (some ⟨g, 0, none⟩) zs.length cap) zs.length (ints zs)) (h : 0 < zs.length) : Row w g (g + 1) (.slice (some ⟨g, 0, none⟩) zs.length cap) zs := by
  obtain ⟨b, cap2, e, h1, h2, h3, h4, h5⟩ := (row_of_owns H).1.blk h
  injection e with e1 e2 e3
  injection e1 with e1
  injection e1 with e1
  subst e1 e3
  exact h5.row (Nat.le_refl _) (Nat.lt_succ_self _) h1 h2 rfl
set_option maxRecDepth 4000 in
set_option maxHeartbeats 1600000 in
theorem pBadG_any (r B base g cap : Nat) (zs : List Int) (w : World) (h : Rd w r B) (hB : B ≤ 900000) (hown : w.ownsRow base 3 1 (.slice (some ⟨g, 0, none⟩) zs.length cap) zs.length (ints zs)) (h1 : 1 ≤ zs.length) (h7 : zs.length ≤ 7) (hr : r < base) (_hbs : base ≤ w.heap.size) : Calls Try.prog 77 #[.pointer (some ⟨r, 0, none⟩), .slice (some ⟨g, 0, none⟩) zs.length cap] w (BadRowG r B base g w) := by
  obtain ⟨i0, hi0, hz0, hz1, hz2⟩ := info_parts infoInt
  obtain ⟨g', cap', hv', hgc, hcm, hgb, hgw⟩ := owns_form hown h1
  injection hv' with hv1 hv2 hv3
  injection hv1 with hv1
  injection hv1 with hv1
  subst hv1
  subst hv3
  have HW := hidH hown
  have HR := hidH h
  clear h hown
  unfold maxLen at hcm
  go_enter Try.func77, Try.ntmps77
  go_wp2_with fail
  refine (pick_any zs.length r B w HR.out (by omega)).mono ?_
  rintro e w1 ⟨x, rfl, x0, x1, hR1, hO1⟩
  have hx := x1 (by omega)
  have R1 := hidH hR1
  have O1 := hidH hO1
  have W1 := hidH (owns_onto HW.out hO1 hr)
  clear x1 hR1 hO1
  obtain ⟨k, rfl⟩ := Int.eq_ofNat_of_zero_le x0
  go_wp2_with fail
  refine (pick_any 40 r (B + 1) w1 R1.out (by omega)).mono ?_
  rintro e w2 ⟨t, rfl, t0, t1, hR2, hO2⟩
  have R2 := hidH hR2
  have O2 := hidH (O1.out.trans hO2)
  have W2 := hidH (owns_onto W1.out hO2 hr)
  have hs2 := O2.out.size
  clear t1 hR2 hO2
  by_cases e0 : t = 0
  · subst e0
    go_wp2_with fail
    have hN := num_any w2.heap.size 0 badNums r (B + 1 + 1) (w2.alloc (.cells (intC badNums) 3)) (R2.out.onto ((Below.refl _ _).alloc (Nat.le_refl _) _)) (by omega) (by decide) (by decide) (ints_new _ _ _ _ R2.out.lt)
    refine hN.mono ?_
    rintro e w3 ⟨z, hz, rfl, hR3, hO3⟩
    have R3 := hidH hR3
    have O3 := hidH (O2.out.trans (((Onto.refl r _).alloc (.cells (intC badNums) 3)).trans hO3))
    have W3 := hidH (owns_onto (owns_below W2.out ((Below.refl _ _).alloc (Nat.le_refl _) _)) hO3 hr)
    clear hN hz hR3 hO3
    obtain ⟨b, cap2, hbe, hc1, hc2, hbb, hbh, hblk⟩ := (row_of_owns W3.out).1.blk (by omega)
    injection hbe with hb1 hb2 hb3
    injection hb1 with hb1
    injection hb1 with hb1
    subst hb1
    subst hb3
    have hkl : k < zs.length := by omega
    obtain ⟨y, hy⟩ := get_lt zs k hkl
    obtain ⟨hcy, hfy⟩ := hblk.2 k y hy
    have HBK := hidH (hblk.set k z)
    have hs3 := O3.out.size
    have HGH := hidH hbh
    clear hy hblk hc1 hc2 hbb hbh
    go_wp2_with fail
    go_ret
    refine ⟨_, zs.set k z, g, g + 1, rfl, HBK.out.row (Nat.le_refl g) (Nat.lt_succ_self g) (by rw [List.length_set]; exact hgc) (by unfold maxLen; omega) (by rw [List.length_set]), .inl ⟨rfl, rfl⟩, hgb, HBK.out.1, by rw [List.length_set]; omega, ?_, ?_⟩
    · exact R3.out.low ((Below.refl (r + 1) w3).setCell (p := ⟨g, k, none⟩) (by show r + 1 ≤ g; omega) _)
    · exact (O3.out.toG g).set k _
  · have c0 : (t == 0) = false := beq_eq_false_iff_ne.2 e0
    by_cases e1 : t = 1
    · subst e1
      clear e0
      go_wp2_with fail
      go_ret
      exact ⟨_, [], g, g + 1, rfl, Row.nil _ _ _ _ _ (by unfold maxLen; omega) (fun h => by cases h), .inl ⟨rfl, rfl⟩, hgb, by omega, by simp, R2.out.more (by omega), O2.out.toG g⟩
    · have c1 : (t == 1) = false := beq_eq_false_iff_ne.2 e1
      by_cases e2 : t = 2
      · subst e2
        clear e0 e1
        go_wp2_with fail
        go_loopw [1] (fun p wr => ∃ (ys : List Int), 1 ≤ ys.length ∧ ys.length ≤ 8 ∧ lenOf p = ys.length ∧ wr.ownsRow base 3 1 p ys.length (ints ys) ∧ Rd wr r (B + 1 + 1) ∧ OntoG r g w wr ∧ base ≤ wr.heap.size ∧ (∀ b, p.ownBlock = some b → b = g ∨ w.heap.size ≤ b)) (fun p _ => 8 - lenOf p)
        case atStart => exact ⟨zs, h1, by omega, rfl, W2.out, R2.out, O2.out.toG g, by omega, fun b hb => .inl (by injection hb with hb; exact hb.symm)⟩
        case round =>
          obtain ⟨ys, hy1, hy8, hle, hown, hrd, ho, hbz, hat0⟩ := hrel
          obtain ⟨g2, cap2, rfl, hgc2, hcm2, hgb2, hgw2⟩ := owns_form hown hy1
          have hg2 := hat0 g2 rfl
          clear hat0
          have hso := ho.size
          have WQ := hidH hown
          have RQ := hidH hrd
          have OQ := hidH ho
          clear hown hrd ho hle
          by_cases hlt : ys.length < 8
          · go_wp2_with (at_builtin; refine wpList_append_lies _ rfl _ _ 23 rfl base 3 i0 (.int .i64 0) 1 8 Try.underlying23 hi0 hz0 hz1 hz2 rfl (by decide) _ ys.length (ints ys) rfl (WQ.out.alloc _) ⟨wr.heap.size, 0, none⟩ 1 1 [.int .i64 1] rfl rfl (news_one wr _ _) (one_one _) (by decide) (by unfold maxLen; omega) (by omega) (by simp; omega) _ rfl ?_)
            intro g5 cap5 w5 hown1 hgrow hat hlt5
            have HRo := hidH hown1
            have HBL := hidH (OQ.out.grow hgrow hg2)
            have HRL := hidH (RQ.out.low (((Below.refl (r + 1) wr).alloc (by omega) _).grown hgrow (by simp; omega) fun g hg => by have := (WQ.out.lt g hg).1; omega))
            have HSZ := hidH hgrow.size
            have hg5 : g5 = g ∨ w.heap.size ≤ g5 := by
              rcases hat with hat | hat
              · have hat2 : g2 = g5 := by injection hat
                omega
              · have : (wr.alloc (.cells #[.int .i64 1] 3)).heap.size = wr.heap.size + 1 := by simp
                first | omega | (simp at hat; omega)
            clear hown1 hgrow hat
            go_wp2_with fail
            go_roundw
            case rel => exact ⟨ys ++ [1], by rw [List.length_append]; simp, by rw [List.length_append]; simp; omega, by rw [List.length_append]; rfl, by rw [List.length_append, ints_append]; exact HRo.out, HRL.out, HBL.out, by have := HSZ.out; simp at this; omega, fun b hb => by injection hb with hb; subst hb; exact hg5⟩
            case measure => show 8 - (ys.length + 1) < 8 - ys.length; omega
          · have h8 : ys.length = 8 := by omega
            have H8 := hidH h8
            clear h8
            go_wp2_with fail
            go_ret
            exact ⟨_, ys, g2, g2 + 1, rfl, row_g WQ.out (by omega), hg2.elim (fun e => .inl ⟨e, by rw [e]⟩) .inr, hgb2, hgw2, hy8, RQ.out.more (by omega), OQ.out⟩
      · have c2 : (t == 2) = false := beq_eq_false_iff_ne.2 e2
        clear e0 e1 e2
        go_wp2_with fail
        go_ret
        exact ⟨_, zs, g, g + 1, rfl, row_g W2.out (by omega), .inl ⟨rfl, rfl⟩, hgb, by omega, by omega, R2.out.more (by omega), O2.out.toG g⟩
end Go.Proofs.Ytcinhmfjnjecdaa
