/-
  The walk of a law: a trimmed polynomial has the same values, one difference more than its degree tells, and the last one is not 0 unless it is the only one. No conditions but that the bytes that came in can be read.
-/
import Derived.Test.YtnbggjdmpgjkgaaKitR
import Derived.Test.YtnbggjdmpgjkgaaDeFns
import Derived.Test.YtnbggjdmpgjkgaaPolyLc
import Derived.Test.YtnbggjdmpgjkgaaPolyD
namespace Go.Proofs.Ytnbggjdmpgjkgaa
open Go.RowKit
theorem ev_append (n : Int) (p q : List Int) (k : Nat) : ev n (p ++ q) k = ev n p k + ev n q (k + p.length) := by
  induction p generalizing k with
  | nil => simp [ev]
  | cons x p ih => rw [List.cons_append, ev, ih, ev, Int.add_assoc, List.length_cons, show k + 1 + p.length = k + (p.length + 1) by omega]
theorem ev_allzero (n : Int) (p : List Int) (h : ∀ x ∈ p, x = 0) (k : Nat) : ev n p k = 0 := by
  induction p generalizing k with
  | nil => rfl
  | cons x p ih => rw [ev, h x List.mem_cons_self, ih (fun y hy => h y (List.mem_cons_of_mem _ hy))]; simp
theorem evP_trim (zs : List Int) (n : Int) : evP (trimL zs) n = evP zs n := by
  have ⟨h1, _⟩ := trimTo_tail zs zs.length (Nat.le_refl _)
  have hz : ∀ x ∈ zs.drop (trimTo zs zs.length), x = 0 := fun x hx => by
    obtain ⟨j, hj, rfl⟩ := List.getElem_of_mem hx
    rw [List.length_drop] at hj
    rw [List.getElem_drop]
    have := h1 (trimTo zs zs.length + j) (by omega) (by omega)
    rw [List.getD_eq_getElem?_getD, List.getElem?_eq_getElem (by omega)] at this
    exact this
  have e := ev_append n (zs.take (trimTo zs zs.length)) (zs.drop (trimTo zs zs.length)) 0
  rw [List.take_append_drop] at e
  unfold evP
  rw [e, ev_allzero _ _ hz, Int.add_zero]
  rfl
theorem trim_ok (zs : List Int) (hz : polyOk zs = true) : polyOk (trimL zs) = true := by
  have ⟨h1, h2, h3⟩ := (listOk_iff _ _ _).1 hz
  have hp := trimTo_pos zs zs.length h1
  have hle := trimTo_le zs zs.length
  exact (listOk_iff _ _ _).2 ⟨by rw [trimL_length]; omega, by rw [trimL_length]; omega, fun x hx => h3 x (List.mem_of_mem_take hx)⟩
theorem trimTo_take (zs : List Int) (h0 : 0 < zs.length) : trimTo (trimL zs) (trimTo zs zs.length) = trimTo zs zs.length := by
  have ⟨_, h2⟩ := trimTo_tail zs zs.length (Nat.le_refl _)
  have hp := trimTo_pos zs zs.length h0
  have hle := trimTo_le zs zs.length
  generalize hT : trimTo zs zs.length = T at *
  rcases T with _ | _ | T
  · omega
  · rfl
  · have h := h2 (by omega)
    rw [trimTo, if_neg]
    rw [trimL, hT, List.getD_eq_getElem?_getD, List.getElem?_take, if_pos (by omega), ← List.getD_eq_getElem?_getD]
    exact h
theorem trim_trim (zs : List Int) (hz : polyOk zs = true) : trimA (trimL zs) = trimL zs := by
  have ⟨h1, _⟩ := polyOk_small _ hz
  have e := trimTo_take zs (by omega)
  rw [trimA, trim_ok zs hz, if_pos rfl]
  show (trimL zs).take (trimTo (trimL zs) (trimL zs).length) = _
  rw [trimL_length, e]
  exact List.take_of_length_le (by rw [trimL_length]; exact Nat.le_refl _)
theorem trim_val (zs : List Int) (n : Int) (hz : polyOk zs = true) : evA (trimL zs) n = evA zs n := by
  unfold evA
  rw [trim_ok zs hz, hz, evP_trim]
/-- What a degree tells of the trimmed polynomial. -/
theorem trim_deg (zs : List Int) (hz : polyOk zs = true) : (degL zs = -1 ∧ trimTo zs zs.length = 1) ∨ (degL zs = (trimTo zs zs.length : Int) - 1 ∧ ∃ x, (trimL zs)[trimTo zs zs.length - 1]? = some x ∧ x ≠ 0) := by
  have ⟨h1, _⟩ := polyOk_small _ hz
  have hzt := zero_trim zs (by omega)
  have ⟨_, h2⟩ := trimTo_tail zs zs.length (Nat.le_refl _)
  have hp := trimTo_pos zs zs.length (by omega)
  have hle := trimTo_le zs zs.length
  cases h : zeroOk zs
  · refine .inr ⟨by rw [degL, hz, if_pos rfl, h]; rfl, ?_⟩
    obtain ⟨x, hx⟩ := get_lt zs (trimTo zs zs.length - 1) (by omega)
    refine ⟨x, by rw [trimL, List.getElem?_take, if_pos (by omega)]; exact hx, ?_⟩
    have hd : zs.getD (trimTo zs zs.length - 1) 0 = x := by rw [List.getD_eq_getElem?_getD, hx]; rfl
    by_cases h3 : 2 ≤ trimTo zs zs.length
    · rw [← hd]; exact h2 h3
    · have e1 : trimTo zs zs.length = 1 := by omega
      rw [h] at hzt
      have hn := of_decide_eq_false hzt.symm
      rw [e1] at hd
      intro hx0
      exact hn ⟨e1, by rw [hd]; exact hx0⟩
  · rw [h] at hzt
    exact .inl ⟨by rw [degL, hz, if_pos rfl, h]; rfl, (of_decide_eq_true hzt.symm).1⟩
set_option maxHeartbeats 2000000 in
theorem lawTrim (a : Option Addr) (len cap : Nat) (w : World) (hc : Came w a len cap) : Calls Try.prog 6 #[.slice a len cap] w (Gives (.bool true) w) := by
  have hcap := hc.lenLe
  have hcap2 := hc.capLe
  unfold maxLen at hcap2
  by_cases hbig : 1048576 < len
  · clear hc
    go_enter Try.func6, Try.ntmps6
    go_wp2
    go_ret
    exact ⟨rfl, Below.refl _ _⟩
  · have HD := hidH (drawTrimPoly a len cap w hc (by omega))
    clear hc
    go_enter Try.func6, Try.ntmps6
    go_wp2_with fail
    refine HD.out.mono ?_
    rintro e w1 ⟨v, zs, rfl, hrow, h8, hB⟩
    have RW := hidH hrow
    have B1 := hidH hB
    clear hrow hB HD
    go_wp2_with fail
    refine (trim_any v zs w1 _ _ RW.out.lies).mono ?_; rintro e w2 ⟨q, rfl, hq, hb⟩
    have RW2 := hidH (RW.out.below hb)
    have RQ2 := hidH hq
    have B2 := hidH (B1.out.trans (hb.mono B1.out.size))
    clear hb hq RW
    go_wp2_with fail
    refine (degree_any v zs w2 _ _ RW2.out.lies).mono ?_; rintro e w3 ⟨rfl, hb⟩
    have RW3 := hidH (RW2.out.below hb)
    have RQ3 := hidH (RQ2.out.below hb)
    have B3 := hidH (B2.out.trans (hb.mono B2.out.size))
    clear hb RW2 RQ2
    have HST := hidH fun (W : World) (hb : Below w3.heap.size w3 W) => (sTrim_any v zs W _ _ (RW3.out.below hb).lies).mono fun e w' (h : NewRow (trimA zs) W e w') =>
      (show ∃ u, e = .returned u ∧ Below w3.heap.size w3 w' ∧ Lies w' W.heap.size w'.heap.size u (trimA zs) by obtain ⟨u, rfl, hr, hbq⟩ := h; exact ⟨u, rfl, hb.trans (hbq.mono hb.size), hr.lies⟩)
    have HSD := hidH fun (W : World) (hb : Below w3.heap.size w3 W) => (sDegree_any v zs W _ _ (RW3.out.below hb).lies).mono fun e w' (h : Gives _ W e w') => (⟨h.1, hb.trans (h.2.mono hb.size)⟩ : e = .returned (.int .i64 (degL zs)) ∧ Below w3.heap.size w3 w')
    have HPV := hidH fun (W : World) (hb : Below w3.heap.size w3 W) => (polyValid_any v zs W _ _ (RW3.out.below hb).lies).mono fun e w' (h : Gives _ W e w') => (⟨h.1, hb.trans (h.2.mono hb.size)⟩ : e = .returned (.bool (polyOk zs)) ∧ Below w3.heap.size w3 w')
    go_wp2_with fail
    refine (HST.out w3 (Below.refl _ _)).mono ?_; rintro e w4 ⟨u, rfl, hb, hl⟩
    have HB4 := hidH hb
    have HL4 := hidH hl
    clear hb hl
    go_wp2_with fail
    refine (deInts_yes q u (trimA zs) w4 _ _ _ _ (RQ3.out.below HB4.out).lies HL4.out).mono ?_; rintro e w5 ⟨rfl, hb⟩
    have HB5 := hidH (HB4.out.trans (hb.mono HB4.out.size))
    clear hb HL4 HB4
    go_wp2_with fail
    refine (HSD.out w5 HB5.out).mono ?_; rintro e w6 ⟨rfl, hb⟩
    have HB6 := hidH hb
    clear hb HB5
    cases hz : polyOk zs
    · have HZ := hidH hz
      clear hz
      generalize degL zs = d at *
      go_wp2_with fail
      refine (HPV.out w6 HB6.out).mono ?_; rintro e w7 ⟨rfl, hb⟩
      rw [HZ.out]
      have HB7 := hidH hb
      clear hb
      go_wp2_with fail
      refine (HST.out w7 HB7.out).mono ?_; rintro e w8 ⟨u2, rfl, hb, hl⟩
      have HB8 := hidH hb
      have HL8 := hidH hl
      clear hb hl
      go_wp2_with fail
      refine (deInts_yes q u2 (trimA zs) w8 _ _ _ _ (RQ3.out.below HB8.out).lies HL8.out).mono ?_; rintro e w9 ⟨rfl, hb⟩
      have HB9 := hidH (HB8.out.trans (hb.mono HB8.out.size))
      clear hb
      go_wp2_with fail
      refine (HSD.out w9 HB9.out).mono ?_; rintro e w10 ⟨rfl, hb⟩
      have HB10 := hidH hb
      clear hb
      go_wp2_with fail
      go_ret
      exact ⟨rfl, B3.out.trans (HB10.out.mono B3.out.size)⟩
    · have HZ := hidH hz
      have ⟨k1, hs⟩ := polyOk_small _ hz
      have k7 := hs.1
      have hT1 := trimTo_pos zs zs.length (by omega)
      have hT2 := trimTo_le zs zs.length
      have hta : trimA zs = trimL zs := by rw [trimA, hz]; rfl
      have hdeg := trim_deg zs hz
      have HTT := hidH (trim_trim zs hz)
      have HTV := hidH fun (n : Int) => trim_val zs n hz
      have hlt := trimL_length zs
      obtain ⟨b, cp, rfl, hlc, hcm, _, hbh, hblk⟩ := RQ3.out.blk (by rw [hta, hlt]; exact hT1)
      obtain ⟨b2, off2, cp2, rfl, hlc2, hcm2, _, _, _, _⟩ := RW3.out.lies.addr (by omega)
      have HBL := hidH hblk
      rw [hta] at HBL RQ3
      rw [hta, hlt] at hlc ⊢
      rw [hlt] at RQ3
      have HE := hidH fun (W : World) (j : Int) (hb : Below w3.heap.size w3 W) => (at_any _ (trimL zs) j W _ _ (RQ3.out.below hb).lies).mono fun e w' (h : Gives _ W e w') => (⟨by rw [h.1, HTV.out], hb.trans (h.2.mono hb.size)⟩ : e = .returned (.int .i64 (evA zs j)) ∧ Below w3.heap.size w3 w')
      have HP := hidH fun (W : World) (j : Int) (hb : Below w3.heap.size w3 W) => (at_any _ zs j W _ _ (RW3.out.below hb).lies).mono fun e w' (h : Gives _ W e w') => (⟨h.1, hb.trans (h.2.mono hb.size)⟩ : e = .returned (.int .i64 (evA zs j)) ∧ Below w3.heap.size w3 w')
      have HDEG := hidH hdeg
      unfold maxLen at hcm hcm2
      clear hz hs hta hdeg hblk hlt
      generalize hT : trimTo zs zs.length = T at *
      have HT := hidH hT
      clear hT
      generalize hd : degL zs = d at *
      have HDD := hidH hd
      clear hd
      go_wp2_with fail
      refine (HPV.out w6 HB6.out).mono ?_; rintro e w7 ⟨rfl, hb⟩
      rw [HZ.out]
      have HB7 := hidH hb
      clear hb HB6
      go_wp2_with fail
      go_loopw [6] (fun i wr => ∃ k : Nat, k ≤ 17 ∧ i = .int .i64 ((k : Int) - 8) ∧ Below w3.heap.size w3 wr) (fun i _ => (9 - intOf i).toNat)
      case atStart => exact ⟨0, by omega, rfl, HB7.out⟩
      case round =>
        obtain ⟨k, hk, rfl, hb⟩ := hrel
        have HBq := hidH hb
        clear hb
        by_cases hlt : k < 17
        · go_wp2_with fail
          refine (HE.out wr ((k : Int) - 8) HBq.out).mono ?_; rintro e w8 ⟨rfl, hb⟩
          have HB8 := hidH hb
          clear hb
          generalize hy : evA zs ((k : Int) - 8) = y at *
          have HY := hidH hy
          clear hy
          go_wp2_with fail
          refine (HP.out w8 ((k : Int) - 8) HB8.out).mono ?_; rintro e w9 ⟨rfl, hb⟩
          have HB9 := hidH hb
          rw [HY.out]
          clear hb
          go_wp2_with fail
          go_roundw
          case rel => exact ⟨k + 1, by omega, by rw [show ((k + 1 : Nat) : Int) - 8 = (k : Int) - 8 + 1 by omega], HB9.out⟩
          case measure => simp [intOf]; omega
        · obtain rfl : k = 17 := by omega
          rcases HDEG.out with ⟨hd1, hd2⟩ | ⟨hd1, x, hx, hx0⟩
          · have HD2 := hidH hd2
            have hTi : ((T : Nat) : Int) = 1 := by omega
            have HTI := hidH hTi
            subst hd1
            have hTle : (T : Int) ≤ (zs.length : Int) := by omega
            clear hd2
            go_wp2_with fail
            refine (trim_any _ (trimL zs) wr _ _ (RQ3.out.below HBq.out).lies).mono ?_; rintro e w8 ⟨tt, rfl, hr, hb⟩
            rw [HTT.out] at hr
            have RT := hidH hr
            have HB8 := hidH (HBq.out.trans (hb.mono HBq.out.size))
            clear hr hb
            go_wp2_with fail
            refine (deInts_yes tt _ (trimL zs) w8 _ _ _ _ RT.out.lies (RQ3.out.below HB8.out).lies).mono ?_; rintro e w9 ⟨rfl, hb⟩
            have HB9 := hidH (HB8.out.trans (hb.mono HB8.out.size))
            clear hb
            go_wp2_with fail
            go_ret
            exact ⟨rfl, B3.out.trans (HB9.out.mono B3.out.size)⟩
          · obtain ⟨m, rfl⟩ : ∃ m, T = m + 1 := ⟨T - 1, by omega⟩
            have hdm : d = (m : Int) := by omega
            subst hdm
            rw [Nat.add_sub_cancel] at hx
            have hxb : (x != 0) = true := bne_iff_ne.2 hx0
            have hxb2 : (x == 0) = false := beq_eq_false_iff_ne.2 hx0
            have hcx0 := (HBL.out.2 m x hx).1
            have hcx : wr.cell? ⟨b, m, none⟩ = some (.int .i64 x) := by rw [HBq.out.cell (p := ⟨b, m, none⟩) HBL.out.1]; exact hcx0
            have hTle : (m : Int) + 1 ≤ (zs.length : Int) := by omega
            have HXX := hidH hx
            clear hx hx0 hcx0 hd1
            go_wp2_with fail
            refine (trim_any _ (trimL zs) wr _ _ (RQ3.out.below HBq.out).lies).mono ?_; rintro e w8 ⟨tt, rfl, hr, hb⟩
            rw [HTT.out] at hr
            have RT := hidH hr
            have HB8 := hidH (HBq.out.trans (hb.mono HBq.out.size))
            clear hr hb
            go_wp2_with fail
            refine (deInts_yes tt _ (trimL zs) w8 _ _ _ _ RT.out.lies (RQ3.out.below HB8.out).lies).mono ?_; rintro e w9 ⟨rfl, hb⟩
            have HB9 := hidH (HB8.out.trans (hb.mono HB8.out.size))
            clear hb
            go_wp2_with fail
            go_ret
            exact ⟨rfl, B3.out.trans (HB9.out.mono B3.out.size)⟩
end Go.Proofs.Ytnbggjdmpgjkgaa
