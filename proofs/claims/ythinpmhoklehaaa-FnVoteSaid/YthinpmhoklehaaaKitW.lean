/-
  Drawn tables, which are sometimes none. Condition: the reader has been asked at most 800000 times.
-/
import Derived.Test.YthinpmhoklehaaaKitT
import Derived.Test.YthinpmhoklehaaaKitP
import Derived.Test.YthinpmhoklehaaaPolyFa
namespace Go.Proofs.Ythinpmhoklehaaa
set_option maxRecDepth 4000
open Go.RowKit
theorem Row.onto {w w' : World} {r lo hi : Nat} {v : Value} {zs : List Int} (H : Row w lo hi v zs) (ho : Onto r w w') (hr : r < lo) : Row w' lo hi v zs :=
  H.apart (lo := r) (hi := r + 1) (Apart.of_onto ho (Nat.le_refl _) (Nat.lt_succ_self _)) (Or.inr hr)
theorem onto_setNew {r b : Nat} {w0 w : World} (h : Onto r w0 w) (hb : w0.heap.size ≤ b) (i : Nat) (v : Value) : Onto r w0 (w.setCell ⟨b, i, none⟩ v) := by
  have o := Onto.setCell b i w v
  exact ⟨o.os.trans h.os, o.tape.trans h.tape, o.output.trans h.output, Nat.le_trans h.size o.size, fun k hk hr => (o.block k (Nat.lt_of_lt_of_le hk h.size) (by omega)).trans (h.block k hk hr)⟩
/-- A drawn table of its own. -/
def TabRow (most r B : Nat) (w : World) (e : Ending) (w' : World) : Prop := ∃ (v : Value) (zs : List Int), e = .returned v ∧ Row w' w.heap.size w'.heap.size v zs ∧ 1 ≤ zs.length ∧ zs.length ≤ most ∧ Rd w' r (B + 40) ∧ Onto r w w'
set_option maxHeartbeats 1600000 in
theorem tab_any (r B : Nat) (w : World) (h : Rd w r B) (hB : B ≤ 800000) : Calls Try.prog 38 #[.pointer (some ⟨r, 0, none⟩)] w (TabRow 14 r B w) := by
  have hr := h.lt
  have HR := hidH h
  clear h
  go_enter Try.func38, Try.ntmps38
  go_wp2_with fail
  refine (someS_any r B w HR.out (by omega)).mono ?_
  rintro e w1 ⟨pv, ps, rfl, hown, h1, h6, hbd, hR1, hO1⟩
  have RP := hidH (row_of_owns hown).1
  have hsm : Small ps := ⟨by omega, fun x hx => by have := hbd x hx; omega⟩
  have HSM := hidH hsm
  have R1 := hidH hR1
  have O1 := hidH hO1
  have s1 := hO1.size
  obtain ⟨pa, pn, pc, hpf⟩ : ∃ a2 n2 c2, pv = .slice a2 n2 c2 := by
    obtain ⟨a2, c2, e, _⟩ := RP.out.lies
    exact ⟨a2, _, c2, e⟩
  subst hpf
  clear hown hbd hR1 hO1 hsm
  go_wp2_with fail
  refine (pick_any 14 r _ w1 R1.out (by omega)).mono ?_
  rintro e w2 ⟨y, rfl, y0, y1, hR2, hO2⟩
  have y2 := y1 (by omega)
  have R2 := hidH hR2
  have O2 := hidH (O1.out.trans hO2)
  have RP2 := hidH (RP.out.onto hO2 hr)
  have s2 := hO2.size
  clear y1 hR2 hO2 RP R1 O1
  obtain ⟨n, hn, hn1, hn2⟩ : ∃ n : Nat, (1 : Int) + y = (n : Int) ∧ 1 ≤ n ∧ n ≤ 14 := ⟨(1 + y).toNat, by omega, by omega, by omega⟩
  go_wp2_with fail
  refine (sValues_any (.slice pa pn pc) ps 0 1 n w2 _ _ RP2.out.lies HSM.out (by omega) (by omega) (fun i hi => by omega)).mono ?_
  rintro e w3 ⟨v, rfl, hrow, hb⟩
  have hlen : (valsS ps 0 1 n).length = n := by simp [valsS]
  generalize valsS ps 0 1 n = zs at *
  clear hn
  subst hlen
  have W3 := hidH (hrow.mono (show w.heap.size ≤ w2.heap.size by omega) (Nat.le_refl _))
  have R3 := hidH (R2.out.onto hb)
  have O3 := hidH (O2.out.trans (Onto.of_below hb))
  have s3 := hb.size
  clear hrow hb RP2 R2 O2 HSM
  obtain ⟨b, cap, rfl, hcl, hcm, hb1, hb2, hblk⟩ := W3.out.blk (by omega)
  unfold maxLen at hcm
  have K3 := hidH hblk
  clear hblk
  go_wp2_with fail
  refine (pick_any 5 r _ w3 R3.out (by omega)).mono ?_
  rintro e w4 ⟨t, rfl, t0, t1, hR4, hO4⟩
  have R4 := hidH hR4
  have O4 := hidH (O3.out.trans hO4)
  have K4 := hidH (K3.out.apart (lo := r) (hi := r + 1) (Apart.of_onto hO4 (Nat.le_refl _) (Nat.lt_succ_self _)) (by omega))
  have s4 := hO4.size
  clear t1 hR4 hO4 K3 R3 O3 W3
  by_cases e0 : t = 0
  · subst e0
    go_wp2_with fail
    refine (pick_any zs.length r _ w4 R4.out (by omega)).mono ?_
    rintro e w5 ⟨x, rfl, x0, x1, hR5, hO5⟩
    have x2 := x1 (by omega)
    have R5 := hidH hR5
    have O5 := hidH (O4.out.trans hO5)
    have K5 := hidH (K4.out.apart (lo := r) (hi := r + 1) (Apart.of_onto hO5 (Nat.le_refl _) (Nat.lt_succ_self _)) (by omega))
    have s5 := hO5.size
    clear x1 hR5 hO5 K4 R4 O4
    obtain ⟨k, rfl⟩ := Int.eq_ofNat_of_zero_le x0
    go_wp2_with fail
    refine (pick_any 100 r _ w5 R5.out (by omega)).mono ?_
    rintro e w6 ⟨z, rfl, z0, z1, hR6, hO6⟩
    have R6 := hidH hR6
    have O6 := hidH (O5.out.trans hO6)
    have K6 := hidH (K5.out.apart (lo := r) (hi := r + 1) (Apart.of_onto hO6 (Nat.le_refl _) (Nat.lt_succ_self _)) (by omega))
    have s6 := hO6.size
    clear z1 hR6 hO6 K5 R5 O5
    have hkl : k < zs.length := by omega
    obtain ⟨u, hu⟩ := get_lt zs k hkl
    obtain ⟨hcu, hfu⟩ := K6.out.2 k u hu
    have K7 := hidH (K6.out.set k z)
    clear hu
    go_wp2_with fail
    go_ret
    refine ⟨_, zs.set k z, rfl, K7.out.row hb1 K7.out.1 (by rw [List.length_set]; exact hcl) (by unfold maxLen; omega) (by rw [List.length_set]), by rw [List.length_set]; omega, by rw [List.length_set]; omega, ?_, ?_⟩
    · exact (R6.out.low ((Below.refl (r + 1) w6).setCell (p := ⟨b, k, none⟩) (by show r + 1 ≤ b; omega) _)).more (by omega)
    · exact onto_setNew O6.out hb1 k _
  · have c0 : (t == 0) = false := beq_eq_false_iff_ne.2 e0
    by_cases e1 : t = 1
    · subst e1
      clear e0
      go_wp2_with fail
      go_loopw [5] (fun i wr => ∃ (k : Nat) (ys : List Int), k ≤ zs.length ∧ i = .int .i64 k ∧ Hid (ys.length = zs.length) ∧ Blk wr b ys ∧ Rd wr r (B + 15 + 1 + 1 + k) ∧ Onto r w wr) (fun i _ => zs.length - (intOf i).toNat)
      case atStart => exact ⟨0, zs, Nat.zero_le _, rfl, hidH rfl, K4.out, R4.out.more (by omega), O4.out⟩
      case round =>
        obtain ⟨k, ys, hk, rfl, HL, hB, hrd, ho⟩ := hrel
        have KR := hidH hB
        have RR := hidH hrd
        have OR := hidH ho
        clear hB hrd ho K4 R4 O4
        by_cases hlt : k < zs.length
        · go_wp2_with fail
          refine (pick_any 50 r _ _ RR.out (by omega)).mono ?_
          rintro e w5 ⟨z, rfl, z0, z1, hR5, hO5⟩
          have R5 := hidH hR5
          have O5 := hidH (OR.out.trans hO5)
          have K5 := hidH (KR.out.apart (lo := r) (hi := r + 1) (Apart.of_onto hO5 (Nat.le_refl _) (Nat.lt_succ_self _)) (by omega))
          clear z1 hR5 hO5 KR RR OR
          obtain ⟨u, hu⟩ := get_lt ys k (by rw [HL.out]; exact hlt)
          obtain ⟨hcu, hfu⟩ := K5.out.2 k u hu
          have K6 := hidH (K5.out.set k z)
          clear hu
          go_wp2_with fail
          go_roundw
          case rel => exact ⟨k + 1, ys.set k z, by omega, by go_num, hidH (by rw [List.length_set]; exact HL.out), K6.out, (R5.out.low ((Below.refl (r + 1) w5).setCell (p := ⟨b, k, none⟩) (by show r + 1 ≤ b; omega) _)).more (by omega), onto_setNew O5.out hb1 k _⟩
          case measure => simp [intOf]; omega
        · obtain rfl : k = zs.length := by omega
          go_wp2_with fail
          go_ret
          exact ⟨_, ys, rfl, KR.out.row hb1 KR.out.1 (by rw [HL.out]; exact hcl) (by unfold maxLen; omega) HL.out.symm, by rw [HL.out]; omega, by rw [HL.out]; omega, RR.out.more (by omega), OR.out⟩
    · have c1 : (t == 1) = false := beq_eq_false_iff_ne.2 e1
      go_wp2_with fail
      go_ret
      exact ⟨_, zs, rfl, K4.out.row hb1 K4.out.1 hcl (by unfold maxLen; omega) rfl, by omega, by omega, R4.out.more (by omega), O4.out⟩
def tabNums : List Int := [1000000000, 1000000001, -1000000001, 9223372036854775807]
def tabLens : List Int := [30, 31, 60, 61]
/-- A drawn row that is sometimes no table. -/
def BadTab (r B base : Nat) (w : World) (e : Ending) (w' : World) : Prop := ∃ (v : Value) (zs : List Int), e = .returned v ∧ Row w' base w'.heap.size v zs ∧ zs.length ≤ 61 ∧ Rd w' r (B + 3) ∧ OntoB r base w w'
set_option maxHeartbeats 1600000 in
theorem badTab_any (r B base : Nat) (v : Value) (zs : List Int) (w : World) (h : Rd w r B) (hB : B ≤ 900000) (hrow : Row w base w.heap.size v zs) (h1 : 1 ≤ zs.length) (h61 : zs.length ≤ 61) (hr : r < base) (hbs : base ≤ w.heap.size) : Calls Try.prog 39 #[.pointer (some ⟨r, 0, none⟩), v] w (BadTab r B base w) := by
  obtain ⟨g, cap, rfl, hgc, hcm, hgb, hgw, hblk⟩ := hrow.blk (by omega)
  unfold maxLen at hcm
  have K0 := hidH hblk
  have HR := hidH h
  clear h hblk hrow
  go_enter Try.func39, Try.ntmps39
  go_wp2_with fail
  refine (pick_any zs.length r B w HR.out (by omega)).mono ?_
  rintro e w1 ⟨x, rfl, x0, x1, hR1, hO1⟩
  have hx := x1 (by omega)
  have R1 := hidH hR1
  have O1 := hidH hO1
  have s1 := hO1.size
  have K1 := hidH (K0.out.apart (lo := r) (hi := r + 1) (Apart.of_onto hO1 (Nat.le_refl _) (Nat.lt_succ_self _)) (by omega))
  clear x1 hR1 hO1 K0 HR
  obtain ⟨k, rfl⟩ := Int.eq_ofNat_of_zero_le x0
  go_wp2_with fail
  refine (pick_any 40 r (B + 1) w1 R1.out (by omega)).mono ?_
  rintro e w2 ⟨t, rfl, t0, t1, hR2, hO2⟩
  have R2 := hidH hR2
  have O2 := hidH (O1.out.trans hO2)
  have s2 := O2.out.size
  have K2 := hidH (K1.out.apart (lo := r) (hi := r + 1) (Apart.of_onto hO2 (Nat.le_refl _) (Nat.lt_succ_self _)) (by omega))
  clear t1 hR2 hO2 K1 R1 O1
  by_cases e0 : t = 0
  · subst e0
    go_wp2_with fail
    have hN := num_any w2.heap.size 0 tabNums r (B + 1 + 1) (w2.alloc (.cells (intC tabNums) 3)) (R2.out.onto ((Below.refl _ _).alloc (Nat.le_refl _) _)) (by omega) (by decide) (by decide) (ints_new _ _ _ _ R2.out.lt)
    refine hN.mono ?_
    rintro e w3 ⟨z, hz, rfl, hR3, hO3⟩
    have R3 := hidH hR3
    have O3 := hidH (O2.out.trans (((Onto.refl r _).alloc (.cells (intC tabNums) 3)).trans hO3))
    have K3 := hidH ((K2.out.below ((Below.refl _ _).alloc (Nat.le_refl _) (.cells (intC tabNums) 3))).apart (lo := r) (hi := r + 1) (Apart.of_onto hO3 (Nat.le_refl _) (Nat.lt_succ_self _)) (by omega))
    clear hN hz hR3 hO3 K2 R2 O2
    have hkl : k < zs.length := by omega
    obtain ⟨y, hy⟩ := get_lt zs k hkl
    obtain ⟨hcy, hfy⟩ := K3.out.2 k y hy
    have K4 := hidH (K3.out.set k z)
    clear hy
    go_wp2_with fail
    go_ret
    refine ⟨_, zs.set k z, rfl, K4.out.row hgb K4.out.1 (by rw [List.length_set]; exact hgc) (by unfold maxLen; omega) (by rw [List.length_set]), by rw [List.length_set]; omega, ?_, ?_⟩
    · exact R3.out.low ((Below.refl (r + 1) w3).setCell (p := ⟨g, k, none⟩) (by show r + 1 ≤ g; omega) _)
    · exact (O3.out.toB hbs).trans (OntoB.of_below ((Below.refl base w3).setCell (p := ⟨g, k, none⟩) hgb _))
  · have c0 : (t == 0) = false := beq_eq_false_iff_ne.2 e0
    by_cases e1 : t = 1
    · subst e1
      clear e0
      go_wp2_with fail
      go_ret
      exact ⟨_, [], rfl, Row.nil _ _ _ _ _ (by unfold maxLen; omega) (fun h => by cases h), by simp, R2.out.more (by omega), O2.out.toB hbs⟩
    · have c1 : (t == 1) = false := beq_eq_false_iff_ne.2 e1
      by_cases e2 : t = 2
      · subst e2
        clear e0 e1
        go_wp2_with fail
        have hN := num_any w2.heap.size 0 tabLens r (B + 1 + 1) (w2.alloc (.cells (intC tabLens) 3)) (R2.out.onto ((Below.refl _ _).alloc (Nat.le_refl _) _)) (by omega) (by decide) (by decide) (ints_new _ _ _ _ R2.out.lt)
        refine hN.mono ?_
        rintro e w3 ⟨z, hz, rfl, hR3, hO3⟩
        have R3 := hidH hR3
        have O3 := hidH (O2.out.trans (((Onto.refl r _).alloc (.cells (intC tabLens) 3)).trans hO3))
        have hz2 : 1 ≤ z ∧ z ≤ 61 := by
          have h : tabLens.all (fun z => decide (1 ≤ z ∧ z ≤ 61)) = true := by decide
          exact of_decide_eq_true (List.all_eq_true.1 h z hz)
        obtain ⟨m, rfl⟩ := Int.eq_ofNat_of_zero_le (show 0 ≤ z by omega)
        have hmk := run_make_row' (P := Try.prog) 23 3 (.int .i64 0) 8 Try.underlying23 infoInt rfl .i64 .i64 m (by omega) (by omega) w3
        have HM := hidH (Blk.made w3 3 m)
        have s3 := O3.out.size
        clear hN hz hR3 hO3 K2 R2 O2
        go_wp2_with fail
        go_ret
        refine ⟨_, List.replicate m 0, rfl, HM.out.row (by omega) HM.out.1 (by rw [List.length_replicate]; exact Nat.le_refl _) (by unfold maxLen; omega) (by rw [List.length_replicate]), by rw [List.length_replicate]; omega, R3.out.onto ((Below.refl _ _).alloc (Nat.le_refl _) _), ?_⟩
        exact (O3.out.toB hbs).trans (OntoB.of_below ((Below.refl base w3).alloc (by omega) _))
      · have c2 : (t == 2) = false := beq_eq_false_iff_ne.2 e2
        go_wp2_with fail
        go_ret
        exact ⟨_, zs, rfl, K2.out.row hgb K2.out.1 hgc (by unfold maxLen; omega) rfl, by omega, R2.out.more (by omega), O2.out.toB hbs⟩
/-- A drawn slice of at most 61 numbers. -/
def DrawT1 (w : World) (e : Ending) (w' : World) : Prop := ∃ (v : Value) (zs : List Int), e = .returned v ∧ Row w' w.heap.size w'.heap.size v zs ∧ zs.length ≤ 61 ∧ Below w.heap.size w w'
theorem drawTableValid (a : Option Addr) (len cap : Nat) (w : World) (hc : Came w a len cap) (hl : len ≤ 1048576) : Calls Try.prog 29 #[.slice a len cap] w (DrawT1 w) := by
  have HO := hidH (opened_any a len cap w hc hl)
  clear hc
  go_enter Try.func29, Try.ntmps29
  go_wp2_with fail
  refine HO.out.mono ?_
  rintro e w1 ⟨rfl, hR, hB⟩
  have R1 := hidH hR
  have B1 := hidH hB
  have s1 := hB.size
  have hr1 := hR.lt
  clear hR hB HO
  go_wp2_with fail
  refine (tab_any w.heap.size 0 w1 R1.out (by omega)).mono ?_
  rintro e w2 ⟨v, zs, rfl, hrow, h1, h14, hR, hO⟩
  have RW := hidH hrow
  have R2 := hidH hR
  have O2 := hidH hO
  have s2 := hO.size
  obtain ⟨va, vn, vc, hvf⟩ : ∃ a2 n2 c2, v = .slice a2 n2 c2 := by
    obtain ⟨a2, c2, e, _⟩ := hrow.lies
    exact ⟨a2, _, c2, e⟩
  subst hvf
  clear hrow hR hO R1
  go_wp2_with fail
  refine (badTab_any w.heap.size _ w1.heap.size _ zs w2 R2.out (by omega) RW.out h1 (by omega) hr1 s2).mono ?_
  rintro e w3 ⟨u, ys, rfl, hrow, h61, hR, hO⟩
  have RW3 := hidH hrow
  have O3 := hidH hO
  clear hrow hR hO RW R2
  obtain ⟨ua, un, uc, huf⟩ : ∃ a2 n2 c2, u = .slice a2 n2 c2 := by
    obtain ⟨a2, c2, e, _⟩ := RW3.out.lies
    exact ⟨a2, _, c2, e⟩
  subst huf
  go_wp2_with fail
  go_ret
  refine ⟨_, ys, rfl, RW3.out.mono s1 (Nat.le_refl _), h61, ?_⟩
  have h12 := O2.out.below (Nat.le_refl _) s1
  have h23 : Below w.heap.size w2 w3 := ⟨O3.out.os, O3.out.tape, O3.out.output, O3.out.size, fun k hk => O3.out.block k (by omega) (by omega)⟩
  exact B1.out.trans (h12.trans h23)
end Go.Proofs.Ythinpmhoklehaaa
