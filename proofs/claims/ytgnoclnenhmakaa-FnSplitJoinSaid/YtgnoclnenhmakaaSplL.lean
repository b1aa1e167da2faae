/-
  The draw of a plan of which two segments are joined. No conditions but that the bytes that came in can be read.
-/
import Derived.Test.YtgnoclnenhmakaaSplH
namespace Go.Proofs.Ytgnoclnenhmakaa
set_option maxRecDepth 4000
open Go.RowKit
/-- A drawn plan and two numbers. -/
def DrawPid (w : World) (e : Ending) (w' : World) : Prop := ∃ (v : Value) (cs : List (Int × List Int)) (i d : Int), e = .returned (.tuple #[v, .int .i64 i, .int .i64 d]) ∧ LiesSg w' w'.heap.size v cs ∧ cs.length ≤ 61 ∧ (∀ c zs, (c, zs) ∈ cs → zs.length ≤ 7) ∧ Below w.heap.size w w'
set_option maxHeartbeats 3200000 in
theorem drawJoinSegs (a : Option Addr) (len cap : Nat) (w : World) (hc : Came w a len cap) (hl : len ≤ 1048576) : Calls Try.prog 25 #[.slice a len cap] w (DrawPid w) := by
  have HO := hidH (opened_any a len cap w hc hl)
  clear hc
  go_enter Try.func25, Try.ntmps25
  go_wp2_with fail
  refine HO.out.mono ?_
  rintro e w1 ⟨rfl, hR, hB⟩
  have R1 := hidH hR
  have B1 := hidH hB
  have s1 := hB.size
  have hr1 := hR.lt
  clear hR hB HO
  go_wp2_with fail
  refine (plan5_any w.heap.size 0 w1 R1.out (by omega)).mono ?_
  rintro e w2 ⟨v, cs, rfl, hP, h1, h61, h7, hR, hO⟩
  have R2 := hidH hR
  have O2 := hidH hO
  have P2 := hidH hP
  have H7c := hidH h7
  obtain ⟨va, vc, rfl, _, hvm⟩ := hP.form
  clear hP hR hO h7 hvm R1
  go_wp2_with fail
  refine (pick_any (cs.length : Int) w.heap.size _ w2 R2.out (by omega)).mono ?_
  rintro e w3 ⟨i, rfl, y0, y1, hR, hO⟩
  have R3 := hidH hR
  have O3 := hidH (O2.out.trans hO)
  have P3 := hidH ((P2.out.onto hO (by omega)).mono (Nat.le_refl _) hO.size)
  clear y0 y1 hR hO R2 O2 P2
  go_wp2_with fail
  refine (pick_any 3 w.heap.size _ w3 R3.out (by omega)).mono ?_
  rintro e w4 ⟨m, rfl, y0, y1, hR, hO⟩
  have y2 := y1 (by omega)
  have R4 := hidH hR
  have O4 := hidH (O3.out.trans hO)
  have P4 := hidH ((P3.out.onto hO (by omega)).mono (Nat.le_refl _) hO.size)
  clear y1 hR hO R3 O3 P3
  have HSP := hidH (fun m => sSplit_any (.slice va cs.length vc) cs i m w4 _ P4.out.lies (by omega) (fun c ys h => by have := H7c.out c ys h; omega))
  go_wp2_with fail
  refine (HSP.out _).mono ?_; rintro e w7 ⟨s, rfl, hr, hb⟩
  obtain ⟨hsl1, hsl2⟩ := splitA_len cs i (1 + m)
  have HSP1 := hidH (splitA_pos cs i (1 + m))
  have R7 := hidH (R4.out.onto hb)
  have O7 := hidH (O4.out.trans (Onto.of_below hb))
  have P7 := hidH ((P4.out.below hb).mono (Nat.le_refl _) hb.size)
  have S7 := hidH (hr.mono O4.out.size (Nat.le_refl _))
  have HS2 := hidH hsl2
  clear hr hb R4 O4 P4 HSP hsl2
  generalize splitA cs i (1 + m) = ds at *
  cases hsb : splitB cs i (1 + m)
  · clear HSP1 hsb
    have H1 := h1
    have H61 := h61
    have H7 := hidH H7c.out
    go_wp2_with fail
    refine (pick_any 16 w.heap.size _ w7 R7.out (by omega)).mono ?_
    rintro e wt ⟨t, rfl, y0, y1, hR, hO⟩
    have Rt := hidH hR
    have Ot := hidH (O7.out.trans hO)
    have Pt := hidH ((P7.out.onto hO (by omega)).mono (Nat.le_refl _) hO.size)
    clear y0 y1 hR hO
    by_cases t0 : t = 0
    · subst t0
      go_wp2_with fail
      have hN := num_any wt.heap.size 0 [-1, 9223372036854775807] w.heap.size _ (wt.alloc (.cells (intC [-1, 9223372036854775807]) 3)) (Rt.out.onto ((Below.refl _ _).alloc (Nat.le_refl _) _)) (by omega) (by first | decide | exact Nat.succ_pos _) (by first | decide | exact (show 2 ≤ 1000 from by decide)) (ints_new _ _ _ _ Rt.out.lt)
      refine hN.mono ?_
      rintro e wu ⟨i2, hz, rfl, hR, hO⟩
      have hO' := ((Onto.refl w.heap.size wt).alloc (.cells (intC [-1, 9223372036854775807]) 3)).trans hO
      have Ru := hidH hR
      have Ou := hidH (Ot.out.trans hO')
      have Pu := hidH ((Pt.out.onto hO' (by omega)).mono (Nat.le_refl _) hO'.size)
      clear hN hR hO hO' hz
      go_wp2_with fail
      refine (bad5_any w.heap.size _ w1.heap.size w.heap.size _ cs wu Pu.out Ru.out (by omega) (by omega) (Nat.le_refl _) H1 H61 H7.out).mono ?_
      rintro e wb ⟨v, es, rfl, hL, k61, k7, hR, hB⟩
      have Lb := hidH hL
      have Rb := hidH hR
      have Bb := hidH ((B1.out.trans (Ou.out.below (Nat.le_refl _) s1)).trans hB)
      have K7 := hidH k7
      have hsb := Bb.out.size
      obtain ⟨vab, vcb, rfl, _, hvm⟩ := (hL wb (Onto.refl _ _)).len
      clear hL hR hB k7 hvm
      go_wp2_with fail
      have hN := num_any wb.heap.size 0 [3, 6, 2, 1, 7, -1] w.heap.size _ (wb.alloc (.cells (intC [3, 6, 2, 1, 7, -1]) 3)) (Rb.out.onto ((Below.refl _ _).alloc (Nat.le_refl _) _)) (by omega) (by first | decide | exact Nat.succ_pos _) (by first | decide | exact (show 6 ≤ 1000 from by decide)) (ints_new _ _ _ _ Rb.out.lt)
      refine hN.mono ?_
      rintro e wc ⟨d, hz, rfl, hR, hO⟩
      have hO' := ((Onto.refl w.heap.size wb).alloc (.cells (intC [3, 6, 2, 1, 7, -1]) 3)).trans hO
      have Lc := hidH (Lb.out wc hO')
      have Bc := hidH (Bb.out.trans (hO'.below (Nat.le_refl _) hsb))
      clear hN hR hO hO' hz
      go_wp2_with fail
      ((try simp only [Exit.inBlock, Exit.then]); refine bodyPost_ret (results_tmp3 rfl _ _ _) rfl ?_)
      exact ⟨_, es, i2, d, rfl, Lc.out, k61, K7.out, Bc.out⟩
    · have b0 : (t == 0) = false := beq_eq_false_iff_ne.2 t0
      clear t0
      go_wp2_with fail
      refine (bad5_any w.heap.size _ w1.heap.size w.heap.size _ cs wt Pt.out Rt.out (by omega) (by omega) (Nat.le_refl _) H1 H61 H7.out).mono ?_
      rintro e wb ⟨v, es, rfl, hL, k61, k7, hR, hB⟩
      have Lb := hidH hL
      have Rb := hidH hR
      have Bb := hidH ((B1.out.trans (Ot.out.below (Nat.le_refl _) s1)).trans hB)
      have K7 := hidH k7
      have hsb := Bb.out.size
      obtain ⟨vab, vcb, rfl, _, hvm⟩ := (hL wb (Onto.refl _ _)).len
      clear hL hR hB k7 hvm
      go_wp2_with fail
      have hN := num_any wb.heap.size 0 [3, 6, 2, 1, 7, -1] w.heap.size _ (wb.alloc (.cells (intC [3, 6, 2, 1, 7, -1]) 3)) (Rb.out.onto ((Below.refl _ _).alloc (Nat.le_refl _) _)) (by omega) (by first | decide | exact Nat.succ_pos _) (by first | decide | exact (show 6 ≤ 1000 from by decide)) (ints_new _ _ _ _ Rb.out.lt)
      refine hN.mono ?_
      rintro e wc ⟨d, hz, rfl, hR, hO⟩
      have hO' := ((Onto.refl w.heap.size wb).alloc (.cells (intC [3, 6, 2, 1, 7, -1]) 3)).trans hO
      have Lc := hidH (Lb.out wc hO')
      have Bc := hidH (Bb.out.trans (hO'.below (Nat.le_refl _) hsb))
      clear hN hR hO hO' hz
      go_wp2_with fail
      ((try simp only [Exit.inBlock, Exit.then]); refine bodyPost_ret (results_tmp3 rfl _ _ _) rfl ?_)
      exact ⟨_, es, i, d, rfl, Lc.out, k61, K7.out, Bc.out⟩
  · have hs1 := HSP1.out hsb
    clear hsb
    obtain ⟨sa, sc, rfl, _, hsm⟩ := S7.out.form
    clear hsm
    go_wp2_with fail
    refine (pick_any 3 w.heap.size _ w7 R7.out (by omega)).mono ?_
    rintro e w8 ⟨y, rfl, y0', y1, hR, hO⟩
    have R8 := hidH hR
    have O8 := hidH (O7.out.trans hO)
    by_cases hy : 0 < y
    · have P8 := hidH ((S7.out.onto hO (by omega)).mono (Nat.le_refl _) hO.size)
      clear y1 hR hO R7 O7 P7 S7
      have H1 := hs1
      have H61 := hsl1
      have H7 := hidH HS2.out
      go_wp2_with fail
      refine (pick_any 16 w.heap.size _ w8 R8.out (by omega)).mono ?_
      rintro e wt ⟨t, rfl, y0, y1, hR, hO⟩
      have Rt := hidH hR
      have Ot := hidH (O8.out.trans hO)
      have Pt := hidH ((P8.out.onto hO (by omega)).mono (Nat.le_refl _) hO.size)
      clear y0 y1 hR hO
      by_cases t0 : t = 0
      · subst t0
        go_wp2_with fail
        have hN := num_any wt.heap.size 0 [-1, 9223372036854775807] w.heap.size _ (wt.alloc (.cells (intC [-1, 9223372036854775807]) 3)) (Rt.out.onto ((Below.refl _ _).alloc (Nat.le_refl _) _)) (by omega) (by first | decide | exact Nat.succ_pos _) (by first | decide | exact (show 2 ≤ 1000 from by decide)) (ints_new _ _ _ _ Rt.out.lt)
        refine hN.mono ?_
        rintro e wu ⟨i2, hz, rfl, hR, hO⟩
        have hO' := ((Onto.refl w.heap.size wt).alloc (.cells (intC [-1, 9223372036854775807]) 3)).trans hO
        have Ru := hidH hR
        have Ou := hidH (Ot.out.trans hO')
        have Pu := hidH ((Pt.out.onto hO' (by omega)).mono (Nat.le_refl _) hO'.size)
        clear hN hR hO hO' hz
        go_wp2_with fail
        refine (bad5_any w.heap.size _ w1.heap.size w.heap.size _ ds wu Pu.out Ru.out (by omega) (by omega) (Nat.le_refl _) H1 H61 H7.out).mono ?_
        rintro e wb ⟨v, es, rfl, hL, k61, k7, hR, hB⟩
        have Lb := hidH hL
        have Rb := hidH hR
        have Bb := hidH ((B1.out.trans (Ou.out.below (Nat.le_refl _) s1)).trans hB)
        have K7 := hidH k7
        have hsb := Bb.out.size
        obtain ⟨vab, vcb, rfl, _, hvm⟩ := (hL wb (Onto.refl _ _)).len
        clear hL hR hB k7 hvm
        go_wp2_with fail
        have hN := num_any wb.heap.size 0 [3, 6, 2, 1, 7, -1] w.heap.size _ (wb.alloc (.cells (intC [3, 6, 2, 1, 7, -1]) 3)) (Rb.out.onto ((Below.refl _ _).alloc (Nat.le_refl _) _)) (by omega) (by first | decide | exact Nat.succ_pos _) (by first | decide | exact (show 6 ≤ 1000 from by decide)) (ints_new _ _ _ _ Rb.out.lt)
        refine hN.mono ?_
        rintro e wc ⟨d, hz, rfl, hR, hO⟩
        have hO' := ((Onto.refl w.heap.size wb).alloc (.cells (intC [3, 6, 2, 1, 7, -1]) 3)).trans hO
        have Lc := hidH (Lb.out wc hO')
        have Bc := hidH (Bb.out.trans (hO'.below (Nat.le_refl _) hsb))
        clear hN hR hO hO' hz
        go_wp2_with fail
        ((try simp only [Exit.inBlock, Exit.then]); refine bodyPost_ret (results_tmp3 rfl _ _ _) rfl ?_)
        exact ⟨_, es, i2, d, rfl, Lc.out, k61, K7.out, Bc.out⟩
      · have b0 : (t == 0) = false := beq_eq_false_iff_ne.2 t0
        clear t0
        go_wp2_with fail
        refine (bad5_any w.heap.size _ w1.heap.size w.heap.size _ ds wt Pt.out Rt.out (by omega) (by omega) (Nat.le_refl _) H1 H61 H7.out).mono ?_
        rintro e wb ⟨v, es, rfl, hL, k61, k7, hR, hB⟩
        have Lb := hidH hL
        have Rb := hidH hR
        have Bb := hidH ((B1.out.trans (Ot.out.below (Nat.le_refl _) s1)).trans hB)
        have K7 := hidH k7
        have hsb := Bb.out.size
        obtain ⟨vab, vcb, rfl, _, hvm⟩ := (hL wb (Onto.refl _ _)).len
        clear hL hR hB k7 hvm
        go_wp2_with fail
        have hN := num_any wb.heap.size 0 [3, 6, 2, 1, 7, -1] w.heap.size _ (wb.alloc (.cells (intC [3, 6, 2, 1, 7, -1]) 3)) (Rb.out.onto ((Below.refl _ _).alloc (Nat.le_refl _) _)) (by omega) (by first | decide | exact Nat.succ_pos _) (by first | decide | exact (show 6 ≤ 1000 from by decide)) (ints_new _ _ _ _ Rb.out.lt)
        refine hN.mono ?_
        rintro e wc ⟨d, hz, rfl, hR, hO⟩
        have hO' := ((Onto.refl w.heap.size wb).alloc (.cells (intC [3, 6, 2, 1, 7, -1]) 3)).trans hO
        have Lc := hidH (Lb.out wc hO')
        have Bc := hidH (Bb.out.trans (hO'.below (Nat.le_refl _) hsb))
        clear hN hR hO hO' hz
        go_wp2_with fail
        ((try simp only [Exit.inBlock, Exit.then]); refine bodyPost_ret (results_tmp3 rfl _ _ _) rfl ?_)
        exact ⟨_, es, i, d, rfl, Lc.out, k61, K7.out, Bc.out⟩
    · have P8 := hidH ((P7.out.onto hO (by omega)).mono (Nat.le_refl _) hO.size)
      clear y1 hR hO R7 O7 P7 S7
      have H1 := h1
      have H61 := h61
      have H7 := hidH H7c.out
      go_wp2_with fail
      refine (pick_any 16 w.heap.size _ w8 R8.out (by omega)).mono ?_
      rintro e wt ⟨t, rfl, y0, y1, hR, hO⟩
      have Rt := hidH hR
      have Ot := hidH (O8.out.trans hO)
      have Pt := hidH ((P8.out.onto hO (by omega)).mono (Nat.le_refl _) hO.size)
      clear y0 y1 hR hO
      by_cases t0 : t = 0
      · subst t0
        go_wp2_with fail
        have hN := num_any wt.heap.size 0 [-1, 9223372036854775807] w.heap.size _ (wt.alloc (.cells (intC [-1, 9223372036854775807]) 3)) (Rt.out.onto ((Below.refl _ _).alloc (Nat.le_refl _) _)) (by omega) (by first | decide | exact Nat.succ_pos _) (by first | decide | exact (show 2 ≤ 1000 from by decide)) (ints_new _ _ _ _ Rt.out.lt)
        refine hN.mono ?_
        rintro e wu ⟨i2, hz, rfl, hR, hO⟩
        have hO' := ((Onto.refl w.heap.size wt).alloc (.cells (intC [-1, 9223372036854775807]) 3)).trans hO
        have Ru := hidH hR
        have Ou := hidH (Ot.out.trans hO')
        have Pu := hidH ((Pt.out.onto hO' (by omega)).mono (Nat.le_refl _) hO'.size)
        clear hN hR hO hO' hz
        go_wp2_with fail
        refine (bad5_any w.heap.size _ w1.heap.size w.heap.size _ cs wu Pu.out Ru.out (by omega) (by omega) (Nat.le_refl _) H1 H61 H7.out).mono ?_
        rintro e wb ⟨v, es, rfl, hL, k61, k7, hR, hB⟩
        have Lb := hidH hL
        have Rb := hidH hR
        have Bb := hidH ((B1.out.trans (Ou.out.below (Nat.le_refl _) s1)).trans hB)
        have K7 := hidH k7
        have hsb := Bb.out.size
        obtain ⟨vab, vcb, rfl, _, hvm⟩ := (hL wb (Onto.refl _ _)).len
        clear hL hR hB k7 hvm
        go_wp2_with fail
        have hN := num_any wb.heap.size 0 [3, 6, 2, 1, 7, -1] w.heap.size _ (wb.alloc (.cells (intC [3, 6, 2, 1, 7, -1]) 3)) (Rb.out.onto ((Below.refl _ _).alloc (Nat.le_refl _) _)) (by omega) (by first | decide | exact Nat.succ_pos _) (by first | decide | exact (show 6 ≤ 1000 from by decide)) (ints_new _ _ _ _ Rb.out.lt)
        refine hN.mono ?_
        rintro e wc ⟨d, hz, rfl, hR, hO⟩
        have hO' := ((Onto.refl w.heap.size wb).alloc (.cells (intC [3, 6, 2, 1, 7, -1]) 3)).trans hO
        have Lc := hidH (Lb.out wc hO')
        have Bc := hidH (Bb.out.trans (hO'.below (Nat.le_refl _) hsb))
        clear hN hR hO hO' hz
        go_wp2_with fail
        ((try simp only [Exit.inBlock, Exit.then]); refine bodyPost_ret (results_tmp3 rfl _ _ _) rfl ?_)
        exact ⟨_, es, i2, d, rfl, Lc.out, k61, K7.out, Bc.out⟩
      · have b0 : (t == 0) = false := beq_eq_false_iff_ne.2 t0
        clear t0
        go_wp2_with fail
        refine (bad5_any w.heap.size _ w1.heap.size w.heap.size _ cs wt Pt.out Rt.out (by omega) (by omega) (Nat.le_refl _) H1 H61 H7.out).mono ?_
        rintro e wb ⟨v, es, rfl, hL, k61, k7, hR, hB⟩
        have Lb := hidH hL
        have Rb := hidH hR
        have Bb := hidH ((B1.out.trans (Ot.out.below (Nat.le_refl _) s1)).trans hB)
        have K7 := hidH k7
        have hsb := Bb.out.size
        obtain ⟨vab, vcb, rfl, _, hvm⟩ := (hL wb (Onto.refl _ _)).len
        clear hL hR hB k7 hvm
        go_wp2_with fail
        have hN := num_any wb.heap.size 0 [3, 6, 2, 1, 7, -1] w.heap.size _ (wb.alloc (.cells (intC [3, 6, 2, 1, 7, -1]) 3)) (Rb.out.onto ((Below.refl _ _).alloc (Nat.le_refl _) _)) (by omega) (by first | decide | exact Nat.succ_pos _) (by first | decide | exact (show 6 ≤ 1000 from by decide)) (ints_new _ _ _ _ Rb.out.lt)
        refine hN.mono ?_
        rintro e wc ⟨d, hz, rfl, hR, hO⟩
        have hO' := ((Onto.refl w.heap.size wb).alloc (.cells (intC [3, 6, 2, 1, 7, -1]) 3)).trans hO
        have Lc := hidH (Lb.out wc hO')
        have Bc := hidH (Bb.out.trans (hO'.below (Nat.le_refl _) hsb))
        clear hN hR hO hO' hz
        go_wp2_with fail
        ((try simp only [Exit.inBlock, Exit.then]); refine bodyPost_ret (results_tmp3 rfl _ _ _) rfl ?_)
        exact ⟨_, es, i, d, rfl, Lc.out, k61, K7.out, Bc.out⟩
end Go.Proofs.Ytgnoclnenhmakaa
