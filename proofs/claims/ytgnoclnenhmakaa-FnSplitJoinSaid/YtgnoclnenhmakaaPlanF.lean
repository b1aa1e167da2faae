/-
  Drawn tables of a few pieces. Condition: the reader has been asked at most 700000 times.
  The draws of small tables, places and degrees. No conditions but that the bytes that came in can be read.
-/
import Derived.Test.YtgnoclnenhmakaaKitT
import Derived.Test.YtgnoclnenhmakaaPolyM
import Derived.Test.YtgnoclnenhmakaaErrKb
import Derived.Test.YtgnoclnenhmakaaKitP
namespace Go.Proofs.Ytgnoclnenhmakaa
set_option maxRecDepth 4000
open Go.RowKit
theorem own_ne {w : World} {pb e m : Nat} {ov pv : Value} {xs : List Value} (hlt : ∀ g, ov.ownBlock = some g → g < pb) (hp : w.ownsRow pb e 1 pv m xs) : ov.ownBlock = none ∨ ov.ownBlock ≠ pv.ownBlock := by
  cases hov : ov.ownBlock with
  | none => exact .inl rfl
  | some g =>
    refine .inr (fun he => ?_)
    have h1 := hlt g hov
    have h2 := (hp.lt g he.symm).1
    omega
set_option maxHeartbeats 3200000 in
theorem tab5_any (r B : Nat) (w : World) (h : Rd w r B) (hB : B ≤ 700000) : Calls Try.prog 59 #[.pointer (some ⟨r, 0, none⟩)] w (TabRow 30 r B w) := by
  obtain ⟨i0, hi0, hz0, hz1, hz2⟩ := info_parts infoInt
  have hr := h.lt
  have HO := hidH (World.ownsRow_made (base := w.heap.size) (e := 3) (size := 1) w #[] 0 (Nat.le_refl _) (Nat.zero_le _) rfl)
  have HR0 := hidH (h.onto ((Below.refl _ _).alloc (Nat.le_refl _) (.cells #[] 3)))
  clear h
  go_enter Try.func59, Try.ntmps59
  go_wp2_with fail
  refine (pick_any 3 r B _ HR0.out (by omega)).mono ?_
  rintro e w2 ⟨y, rfl, y0, y1, hR2, hO2⟩
  have H2 := hidH hR2
  have O2 := hidH (((Onto.refl r w).alloc (.cells #[] 3)).trans hO2)
  have W2 := hidH (owns_onto HO.out hO2 hr)
  have y2 := y1 (by omega)
  clear y1 hR2 hO2
  obtain ⟨q, rfl⟩ := Int.eq_ofNat_of_zero_le y0
  go_wp2_with fail
  go_loopw [3, 4] (fun o i wr => ∃ (j : Nat) (ov : Value) (zs : List Int), j ≤ 3 ∧ zs.length ≤ 7 * (3 - j) ∧ (1 ≤ zs.length ∨ 1 ≤ j) ∧ i = .int .i64 j ∧ ov = o ∧ wr.ownsRow w.heap.size 3 1 ov zs.length (ints zs) ∧ Rd wr r (B + 1 + 6 * (3 - j)) ∧ Onto r w wr) (fun _ i _ => (intOf i).toNat)
  case atStart => exact ⟨1 + q, _, [], by omega, by simp, by omega, by simp, rfl, W2.out, H2.out.more (by omega), O2.out⟩
  case round =>
    obtain ⟨j, ov, zs, hj, hlz, hne, rfl, rfl, hown, hrd, ho⟩ := hrel
    have HLZ := hidH hlz
    have HNE := hidH hne
    have HWq := hidH hown
    have HRq := hidH hrd
    have HOq := hidH ho
    clear hlz hne hown hrd ho HO HR0 H2 O2 W2
    by_cases hlt : 0 < j
    · go_wp2_with fail
      refine (pick_any 80 r _ _ HRq.out (by omega)).mono ?_
      rintro e w3 ⟨a, rfl, a0, a1, hR3, hO3⟩
      have a2 := a1 (by omega)
      have H3 := hidH (hR3.onto ((Below.refl _ _).alloc (Nat.le_refl _) (.cells #[.int .i64 (a - 40)] 3)))
      have O3 := hidH (HOq.out.trans (hO3.trans ((Onto.refl r w3).alloc (.cells #[.int .i64 (a - 40)] 3))))
      have W3 := hidH ((owns_onto HWq.out hO3 hr).alloc (.cells #[.int .i64 (a - 40)] 3))
      have HLT := hidH (fun g hg => ((owns_onto HWq.out hO3 hr).lt g hg).2)
      have P3 := hidH (owns_lit w3 (a - 40) 3)
      have hr3 : r < w3.heap.size := by have := hR3.lt; omega
      have hb3 : w.heap.size ≤ w3.heap.size := by have := HOq.out.size; have := hO3.size; omega
      clear a1 hR3 hO3 HWq HRq HOq
      go_wp2_with fail
      refine (pick_any 4 r _ _ H3.out (by omega)).mono ?_
      rintro e w4 ⟨b, rfl, b0, b1, hR4, hO4⟩
      have b2 := b1 (by omega)
      have H4 := hidH hR4
      have O4 := hidH (O3.out.trans hO4)
      have W4 := hidH (owns_onto W3.out hO4 hr)
      have P4 := hidH (owns_onto P3.out hO4 hr3)
      clear b1 hR4 hO4 H3 O3 W3 P3
      obtain ⟨b, rfl⟩ := Int.eq_ofNat_of_zero_le b0
      have HSM := hidH (show ∀ x ∈ [a - 40], (-1000 : Int) ≤ x ∧ x ≤ 1000 from fun x hx => by simp at hx; omega)
      obtain ⟨wo, rfl⟩ : ∃ wo, wo = wr := ⟨wr, rfl⟩
      generalize w3.heap.size = pb at *
      go_wp2_with fail
      go_loopw [5, 6] (fun o i wr => ∃ (k m : Nat) (pv : Value) (ps : List Int), k + m = b ∧ ps.length = 1 + k ∧ Hid (∀ x ∈ ps, (-1000 : Int) ≤ x ∧ x ≤ 1000) ∧ i = .int .i64 m ∧ pv = o ∧ wr.ownsRow pb 3 1 pv (1 + k) (ints ps) ∧ wr.ownsRow w.heap.size 3 1 ov zs.length (ints zs) ∧ Rd wr r (B + 1 + 6 * (3 - j) + 1 + 1 + k) ∧ Onto r w wr) (fun _ i _ => (intOf i).toNat)
      case atStart => exact ⟨0, b, _, [a - 40], by omega, rfl, HSM, rfl, rfl, P4.out, W4.out, H4.out, O4.out⟩
      case round =>
        obtain ⟨k, m, pv, ps, hkm, hlp, HSP, rfl, rfl, hownp, hown, hrd, ho⟩ := hrel
        have HKM := hidH hkm
        have HLP := hidH hlp
        have HPq := hidH hownp
        have HWq := hidH hown
        have HRq := hidH hrd
        have HOq := hidH ho
        have hk4 : k + m ≤ 3 := by omega
        have hpb : w.heap.size ≤ pb := hb3
        clear hkm hlp hownp hown hrd ho H4 O4 W4 P4 HSM
        by_cases hlt2 : 0 < m
        · go_wp2_with fail
          refine (pick_any 24 r _ _ HRq.out (by omega)).mono ?_
          rintro e w5 ⟨c, rfl, c0, c1, hR5, hO5⟩
          have c2 := c1 (by omega)
          have H5 := hidH hR5
          have O5 := hidH (HOq.out.trans hO5)
          have W5 := hidH (owns_onto HWq.out hO5 hr)
          have P5 := hidH (owns_onto HPq.out hO5 hr3)
          have hs5 := hO5.size
          clear c1 hR5 hO5 HRq HOq HWq HPq
          have hs6 : pb ≤ w5.heap.size := by
            obtain ⟨g, cap, _, _, _, h1, h2⟩ := owns_form P5.out (by omega)
            omega
          go_wp2_with (at_builtin; refine wpList_append_own _ rfl _ _ 28 rfl pb 3 i0 (.int .i64 0) 1 8 Try.underlying28 hi0 hz0 hz1 hz2 rfl (by decide) pv (1 + k) (ints ps) rfl (P5.out.alloc _) ⟨w5.heap.size, 0, none⟩ 1 1 [.int .i64 (c - 12)] rfl rfl (news_one w5 _ _) (one_one _) (by unfold maxLen; omega) (by omega) (by simp; omega) ?_)
          intro v' w6 hown1 hgrow _
          have P6 := hidH hown1
          have W6 := hidH ((W5.out.alloc (.cells #[.int .i64 (c - 12)] 3)).kept hgrow (own_ne HLT.out (P5.out.alloc (.cells #[.int .i64 (c - 12)] 3))))
          have HBL := hidH (OntoB.of_below (r := r) (((Below.refl pb w5).alloc hs6 _).grown hgrow (by simp; omega) fun g hg => (P5.out.lt g hg).1))
          have HRL := hidH (H5.out.low (((Below.refl (r + 1) w5).alloc (by have := H5.out.lt; omega) _).grown hgrow (by simp; have := H5.out.lt; omega) fun g hg => by have := (P5.out.lt g hg).1; omega))
          clear hown1 hgrow
          go_wp2_with fail
          go_roundw
          case rel =>
            have hkm := HKM.out
            refine ⟨k + 1, m - 1, v', ps ++ [c - 12], by omega, by rw [List.length_append, HLP.out]; rfl, hidH (bnd_snoc HSP.out (by omega) (by omega)), by rw [show ((m - 1 : Nat) : Int) = (m : Int) - 1 by omega], rfl, by rw [ints_append]; exact P6.out, W6.out, HRL.out.more (by omega), ((O5.out.toB (Nat.le_refl _)).trans (HBL.out.down hpb)).onto⟩
          case measure => simp [intOf]; omega
        · obtain rfl : m = 0 := by omega
          clear hlt2
          go_wp2_with fail
          refine (pick_any 7 r _ _ HRq.out (by omega)).mono ?_
          rintro e w5 ⟨c, rfl, c0, c1, hR5, hO5⟩
          have c2 := c1 (by omega)
          have H5 := hidH hR5
          have O5 := hidH (HOq.out.trans hO5)
          have W5 := hidH (owns_onto HWq.out hO5 hr)
          have P5 := hidH (owns_onto HPq.out hO5 hr3)
          clear c1 hR5 hO5 HRq HOq HWq HPq
          have RP := hidH (row_of_owns P5.out).1
          obtain ⟨pa, pn, pc, hpf⟩ : ∃ a2 n2 c2, pv = .slice a2 n2 c2 := by
            obtain ⟨a2, c2, e, _⟩ := RP.out.lies
            exact ⟨a2, _, c2, e⟩
          subst hpf
          obtain ⟨n, hn, hn1, hn7⟩ : ∃ n : Nat, (1 : Int) + c = (n : Int) ∧ 1 ≤ n ∧ n ≤ 7 := ⟨(1 + c).toNat, by omega, by omega, by omega⟩
          have HSS := hidH (show Small ps from ⟨by have := HLP.out; omega, fun x hx => by have := HSP.out x hx; omega⟩)
          go_wp2_with fail
          refine (sValues_any (.slice pa pn pc) ps 0 1 n w5 _ _ RP.out.lies HSS.out (by omega) (by omega) (fun i hi => by omega)).mono ?_
          rintro e w6 ⟨v, rfl, hrow, hb⟩
          have hvl : (valsS ps 0 1 n).length = n := by simp [valsS]
          generalize valsS ps 0 1 n = vs at *
          clear hn
          subst hvl
          obtain ⟨vb, vo, vc, rfl, hvc, hvm, _, _, _, hcell⟩ := hrow.lies.addr (by omega)
          unfold maxLen at hvm
          have HC := hidH (cells_map hcell)
          have HOC := hidH (oneCells vs)
          have H6 := hidH (H5.out.onto hb)
          have O6 := hidH (O5.out.trans (Onto.of_below hb))
          have W6 := hidH (owns_below W5.out hb)
          have hs6 : w.heap.size ≤ w6.heap.size := O6.out.size
          clear hrow hb hcell P5 RP H5 O5 W5 HSS
          have hz21 : zs.length ≤ 21 := by have := HLZ.out; omega
          go_wp2_with (at_builtin; refine wpList_append_own _ rfl _ _ 28 rfl w.heap.size 3 i0 (.int .i64 0) 1 8 Try.underlying28 hi0 hz0 hz1 hz2 rfl (by decide) ov zs.length (ints zs) rfl W6.out ⟨vb, vo, none⟩ vs.length vc (ints vs) rfl ?qc1 ?qc2 HOC.out ?qc4 ?qc5 ?qc6 ?_)
          case qc1 => rw [ints_length, Nat.mul_one]
          case qc2 => exact HC.out _ (Below.refl _ _)
          case qc4 => unfold maxLen; omega
          case qc5 => omega
          case qc6 => exact hs6
          intro v' w7 hown1 hgrow _
          have W7 := hidH hown1
          have HBL := hidH (OntoB.of_below (r := r) ((Below.refl w.heap.size w6).grown hgrow hs6 fun g hg => (W6.out.lt g hg).1))
          have HRL := hidH (H6.out.low ((Below.refl (r + 1) w6).grown hgrow (by have := H6.out.lt; omega) fun g hg => by have := (W6.out.lt g hg).1; omega))
          clear hown1 hgrow
          go_wp2_with fail
          go_roundw
          case rel =>
            have hkm := HKM.out
            have hlz := HLZ.out
            refine ⟨j - 1, v', zs ++ vs, by omega, by rw [List.length_append]; omega, .inl (by rw [List.length_append]; omega), by rw [show ((j - 1 : Nat) : Int) = (j : Int) - 1 by omega], rfl, by rw [ints_append, List.length_append]; exact W7.out, HRL.out.more (by omega), ((O6.out.toB (Nat.le_refl _)).trans HBL.out).onto⟩
          case measure => simp [intOf]; omega
    · obtain rfl : j = 0 := by omega
      have hz1 : 1 ≤ zs.length := by have := HNE.out; omega
      have hz21 : zs.length ≤ 21 := by have := HLZ.out; omega
      obtain ⟨g, gc, rfl, hgc, hgm, hg1, hg2, hblk⟩ := (row_of_owns HWq.out).1.blk (by omega)
      unfold maxLen at hgm
      have K3 := hidH hblk
      clear hblk HWq HLZ HNE hlt
      go_wp2_with fail
      refine (pick_any 4 r _ _ HRq.out (by omega)).mono ?_
      rintro e w4 ⟨t, rfl, t0, t1, hR4, hO4⟩
      have R4 := hidH hR4
      have O4 := hidH (HOq.out.trans hO4)
      have K4 := hidH (K3.out.apart (lo := r) (hi := r + 1) (Apart.of_onto hO4 (Nat.le_refl _) (Nat.lt_succ_self _)) (by omega))
      clear t1 hR4 hO4 K3 HRq HOq
      by_cases e0 : t = 0
      · subst e0
        go_wp2_with fail
        refine (pick_any zs.length r _ w4 R4.out (by omega)).mono ?_
        rintro e w5 ⟨x, rfl, x0, x1, hR5, hO5⟩
        have x2 := x1 (by omega)
        have R5 := hidH hR5
        have O5 := hidH (O4.out.trans hO5)
        have K5 := hidH (K4.out.apart (lo := r) (hi := r + 1) (Apart.of_onto hO5 (Nat.le_refl _) (Nat.lt_succ_self _)) (by omega))
        clear x1 hR5 hO5 K4 R4 O4
        obtain ⟨k, rfl⟩ := Int.eq_ofNat_of_zero_le x0
        go_wp2_with fail
        refine (pick_any 40 r _ w5 R5.out (by omega)).mono ?_
        rintro e w6 ⟨z, rfl, z0, z1, hR6, hO6⟩
        have R6 := hidH hR6
        have O6 := hidH (O5.out.trans hO6)
        have K6 := hidH (K5.out.apart (lo := r) (hi := r + 1) (Apart.of_onto hO6 (Nat.le_refl _) (Nat.lt_succ_self _)) (by omega))
        clear z1 hR6 hO6 K5 R5 O5
        have hkl : k < zs.length := by omega
        obtain ⟨u, hu⟩ := get_lt zs k hkl
        obtain ⟨hcu, hfu⟩ := K6.out.2 k u hu
        have K7 := hidH (K6.out.set k z)
        clear hu
        go_wp2_with fail
        go_ret
        refine ⟨_, zs.set k z, rfl, K7.out.row hg1 K7.out.1 (by rw [List.length_set]; exact hgc) (by unfold maxLen; omega) (by rw [List.length_set]), by rw [List.length_set]; omega, by rw [List.length_set]; omega, ?_, ?_⟩
        · exact (R6.out.low ((Below.refl (r + 1) w6).setCell (p := ⟨g, k, none⟩) (by show r + 1 ≤ g; omega) _)).more (by omega)
        · exact onto_setNew O6.out hg1 k _
      · have c0 : (t == 0) = false := beq_eq_false_iff_ne.2 e0
        go_wp2_with fail
        go_ret
        exact ⟨_, zs, rfl, K4.out.row hg1 K4.out.1 hgc (by unfold maxLen; omega) rfl, by omega, by omega, R4.out.more (by omega), O4.out⟩
end Go.Proofs.Ytgnoclnenhmakaa
namespace Go.Proofs.Ytgnoclnenhmakaa
set_option maxRecDepth 4000
open Go.RowKit
theorem Lies.onto5 {w w' : World} {r lo : Nat} {v : Value} {zs : List Int} (H : Lies w lo w.heap.size v zs) (ho : Onto r w w') (hr : r + 1 ≤ lo) : Lies w' lo w'.heap.size v zs :=
  (H.apart (lo := r) (hi := r + 1) (Apart.of_onto ho (Nat.le_refl _) (Nat.lt_succ_self _)) (.inr hr)).mono (Nat.le_refl _) ho.size
theorem Lies.some5 {w : World} {lo hi : Nat} {v : Value} {zs : List Int} (h : Lies w lo hi v zs) : ∃ a cap, v = .slice a zs.length cap := by
  obtain ⟨a, cap, e, _⟩ := h
  exact ⟨a, cap, e⟩
theorem Blk.onto5 {w w' : World} {r b : Nat} {zs : List Int} (H : Blk w b zs) (ho : Onto r w w') (hr : r < b) : Blk w' b zs := H.apart (lo := r) (hi := r + 1) (Apart.of_onto ho (Nat.le_refl _) (Nat.lt_succ_self _)) (.inr hr)
theorem onto2_new {r b : Nat} {u v w : World} (h : Onto r u v) (k : Onto2 r b v w) (hb : u.heap.size ≤ b) : Onto r u w :=
  ⟨k.os.trans h.os, k.tape.trans h.tape, k.output.trans h.output, Nat.le_trans h.size k.size, fun j hj hr => (k.block j (Nat.lt_of_lt_of_le hj h.size) hr (by omega)).trans (h.block j hj hr)⟩
theorem onto_new5 {r b : Nat} {u v w : World} (h : Onto r u v) (k : Onto b v w) (hb : u.heap.size ≤ b) : Onto r u w :=
  ⟨k.os.trans h.os, k.tape.trans h.tape, k.output.trans h.output, Nat.le_trans h.size k.size, fun j hj hr => (k.block j (Nat.lt_of_lt_of_le hj h.size) (by omega)).trans (h.block j hj hr)⟩
def deg5 : List Int := [-1, 7, 6]
def big5 : List Int := [1500, 1501, -1500, -1501]
/-- A drawn row, sometimes no small table, and a degree. -/
def SomeTd (r B : Nat) (w : World) (e : Ending) (w' : World) : Prop := ∃ (v : Value) (zs : List Int) (d : Int), e = .returned (.tuple #[v, .int .i64 d]) ∧ Lies w' (r + 1) w'.heap.size v zs ∧ zs.length ≤ 61 ∧ -1 ≤ d ∧ d ≤ 7 ∧ Rd w' r (B + 60) ∧ Onto r w w'
set_option maxHeartbeats 3200000 in
theorem some5_any (r B : Nat) (w : World) (h : Rd w r B) (hB : B ≤ 700000) : Calls Try.prog 37 #[.pointer (some ⟨r, 0, none⟩)] w (SomeTd r B w) := by
  have hr := h.lt
  have HR := hidH h
  clear h
  go_enter Try.func37, Try.ntmps37
  go_wp2_with fail
  refine (tab5_any r B w HR.out hB).mono ?_
  rintro e w1 ⟨v, zs, rfl, hrow, hz1, hz30, hR, hO⟩
  obtain ⟨g, gc, rfl, hgc, hgm, hg1, hg2, hblk⟩ := hrow.blk (by omega)
  have K1 := hidH hblk
  have R1 := hidH hR
  have O1 := hidH hO
  unfold maxLen at hgm
  clear hrow hR hO hblk HR
  go_wp2_with fail
  refine (pick_any 4 r _ w1 R1.out (by omega)).mono ?_
  rintro e w2 ⟨d, rfl, d0, d1, hR, hO⟩
  have d2 := d1 (by omega)
  have R2 := hidH hR
  have O2 := hidH (O1.out.trans hO)
  have K2 := hidH (K1.out.onto5 hO (by omega))
  clear d1 hR hO R1 O1 K1
  go_wp2_with fail
  refine (pick_any 16 r _ w2 R2.out (by omega)).mono ?_
  rintro e w3 ⟨e1, rfl, e10, e11, hR, hO⟩
  have e12 := e11 (by omega)
  have R3 := hidH hR
  have O3 := hidH (O2.out.trans hO)
  have K3 := hidH (K2.out.onto5 hO (by omega))
  clear e11 hR hO R2 O2 K2
  by_cases e_e1 : e1 = 0
  · have b_e1 : (e1 == 0) = true := beq_iff_eq.2 e_e1
    clear e_e1
    go_wp2_with fail
    have hN := num_any w3.heap.size 0 deg5 r _ (w3.alloc (.cells (intC deg5) 3)) (R3.out.onto ((Below.refl _ _).alloc (Nat.le_refl _) _)) (by omega) (by first | decide | exact Nat.succ_pos _) (by first | decide | exact (show 3 ≤ 1000 from by decide)) (ints_new _ _ _ _ R3.out.lt)
    refine hN.mono ?_
    rintro e w4 ⟨dd, hz, rfl, hR, hO⟩
    have R4 := hidH hR
    have O4 := hidH (O3.out.trans (((Onto.refl _ _).alloc (.cells (intC deg5) 3)).trans hO))
    have K4 := hidH (K3.out.onto5 (((Onto.refl _ _).alloc (.cells (intC deg5) 3)).trans hO) (by omega))
    have hdb : -1 ≤ dd ∧ dd ≤ 7 := by
      have : ∀ y ∈ deg5, -1 ≤ y ∧ y ≤ 7 := by decide
      exact this dd hz
    clear hN hz hR hO R3 O3 K3
    go_wp2_with fail
    refine (pick_any 24 r _ w4 R4.out (by omega)).mono ?_
    rintro e w5 ⟨e2, rfl, e20, e21, hR, hO⟩
    have e22 := e21 (by omega)
    have R5 := hidH hR
    have O5 := hidH (O4.out.trans hO)
    have K5 := hidH (K4.out.onto5 hO (by omega))
    clear e21 hR hO R4 O4 K4
    by_cases e_e2 : e2 = 0
    · have b_e2 : (e2 == 0) = true := beq_iff_eq.2 e_e2
      clear e_e2
      go_wp2_with fail
      refine (pick_any zs.length r _ w5 R5.out (by omega)).mono ?_
      rintro e w6 ⟨f, rfl, f0, f1, hR, hO⟩
      have f2 := f1 (by omega)
      have R6 := hidH hR
      have O6 := hidH (O5.out.trans hO)
      have K6 := hidH (K5.out.onto5 hO (by omega))
      clear f1 hR hO R5 O5 K5
      obtain ⟨f, rfl⟩ := Int.eq_ofNat_of_zero_le f0
      go_wp2_with fail
      have hN := num_any w6.heap.size 0 big5 r _ (w6.alloc (.cells (intC big5) 3)) (R6.out.onto ((Below.refl _ _).alloc (Nat.le_refl _) _)) (by omega) (by first | decide | exact Nat.succ_pos _) (by first | decide | exact (show 3 ≤ 1000 from by decide)) (ints_new _ _ _ _ R6.out.lt)
      refine hN.mono ?_
      rintro e w7 ⟨z, hz, rfl, hR, hO⟩
      have R7 := hidH hR
      have O7 := hidH (O6.out.trans (((Onto.refl _ _).alloc (.cells (intC big5) 3)).trans hO))
      have K7 := hidH (K6.out.onto5 (((Onto.refl _ _).alloc (.cells (intC big5) 3)).trans hO) (by omega))
      clear hN hz hR hO R6 O6 K6
      have hfl : f < zs.length := by omega
      obtain ⟨y, hy⟩ := get_lt zs f hfl
      obtain ⟨hcy, hfy⟩ := K7.out.2 f y hy
      have K8 := hidH (K7.out.set f z)
      have R8 := hidH (R7.out.low ((Onto.setCell g f w7 (.int .i64 z)).below (B := r + 1) (by omega) (by have := R7.out.lt; omega)))
      have O8 := hidH (onto_new5 O7.out (Onto.setCell g f w7 (.int .i64 z)) (by omega))
      have HSL := hidH (show (zs.set f z).length = zs.length by rw [List.length_set])
      clear hy R7 O7 K7
      go_wp2_with fail
      generalize w7.setCell ⟨g, f, none⟩ (.int .i64 z) = w8 at *
      generalize zs.set f z = ys at *
      refine (badTab2_len r _ g 0 gc zs.length ys w8 HSL.out R8.out (by omega) (BlkO.of_blk K8.out) hgc (by omega) (by omega) (by omega) (by omega)).mono ?_
      rintro e w20 ⟨u, us, rfl, hlu, h61, hR, hO⟩
      have U20 := hidH hlu
      have R20 := hidH hR
      have O20 := hidH (onto2_new O8.out hO (by omega))
      clear hlu hR hO
      go_wp2_with fail
      go_ret2
      exact ⟨_, us, _, rfl, U20.out, h61, hdb.1, hdb.2, R20.out.more (by omega), O20.out⟩
    · have b_e2 : (e2 == 0) = false := beq_eq_false_iff_ne.2 e_e2
      clear e_e2
      go_wp2_with fail
      refine (badTab2_len r _ g 0 gc zs.length zs w5 rfl R5.out (by omega) (BlkO.of_blk K5.out) hgc (by omega) (by omega) (by omega) (by omega)).mono ?_
      rintro e w20 ⟨u, us, rfl, hlu, h61, hR, hO⟩
      have U20 := hidH hlu
      have R20 := hidH hR
      have O20 := hidH (onto2_new O5.out hO (by omega))
      clear hlu hR hO
      go_wp2_with fail
      go_ret2
      exact ⟨_, us, _, rfl, U20.out, h61, hdb.1, hdb.2, R20.out.more (by omega), O20.out⟩
  · have b_e1 : (e1 == 0) = false := beq_eq_false_iff_ne.2 e_e1
    clear e_e1
    go_wp2_with fail
    refine (pick_any 24 r _ w3 R3.out (by omega)).mono ?_
    rintro e w4 ⟨e2, rfl, e20, e21, hR, hO⟩
    have e22 := e21 (by omega)
    have R4 := hidH hR
    have O4 := hidH (O3.out.trans hO)
    have K4 := hidH (K3.out.onto5 hO (by omega))
    clear e21 hR hO R3 O3 K3
    by_cases e_e2 : e2 = 0
    · have b_e2 : (e2 == 0) = true := beq_iff_eq.2 e_e2
      clear e_e2
      go_wp2_with fail
      refine (pick_any zs.length r _ w4 R4.out (by omega)).mono ?_
      rintro e w5 ⟨f, rfl, f0, f1, hR, hO⟩
      have f2 := f1 (by omega)
      have R5 := hidH hR
      have O5 := hidH (O4.out.trans hO)
      have K5 := hidH (K4.out.onto5 hO (by omega))
      clear f1 hR hO R4 O4 K4
      obtain ⟨f, rfl⟩ := Int.eq_ofNat_of_zero_le f0
      go_wp2_with fail
      have hN := num_any w5.heap.size 0 big5 r _ (w5.alloc (.cells (intC big5) 3)) (R5.out.onto ((Below.refl _ _).alloc (Nat.le_refl _) _)) (by omega) (by first | decide | exact Nat.succ_pos _) (by first | decide | exact (show 3 ≤ 1000 from by decide)) (ints_new _ _ _ _ R5.out.lt)
      refine hN.mono ?_
      rintro e w6 ⟨z, hz, rfl, hR, hO⟩
      have R6 := hidH hR
      have O6 := hidH (O5.out.trans (((Onto.refl _ _).alloc (.cells (intC big5) 3)).trans hO))
      have K6 := hidH (K5.out.onto5 (((Onto.refl _ _).alloc (.cells (intC big5) 3)).trans hO) (by omega))
      clear hN hz hR hO R5 O5 K5
      have hfl : f < zs.length := by omega
      obtain ⟨y, hy⟩ := get_lt zs f hfl
      obtain ⟨hcy, hfy⟩ := K6.out.2 f y hy
      have K7 := hidH (K6.out.set f z)
      have R7 := hidH (R6.out.low ((Onto.setCell g f w6 (.int .i64 z)).below (B := r + 1) (by omega) (by have := R6.out.lt; omega)))
      have O7 := hidH (onto_new5 O6.out (Onto.setCell g f w6 (.int .i64 z)) (by omega))
      have HSL := hidH (show (zs.set f z).length = zs.length by rw [List.length_set])
      clear hy R6 O6 K6
      go_wp2_with fail
      generalize w6.setCell ⟨g, f, none⟩ (.int .i64 z) = w7 at *
      generalize zs.set f z = ys at *
      refine (badTab2_len r _ g 0 gc zs.length ys w7 HSL.out R7.out (by omega) (BlkO.of_blk K7.out) hgc (by omega) (by omega) (by omega) (by omega)).mono ?_
      rintro e w20 ⟨u, us, rfl, hlu, h61, hR, hO⟩
      have U20 := hidH hlu
      have R20 := hidH hR
      have O20 := hidH (onto2_new O7.out hO (by omega))
      clear hlu hR hO
      go_wp2_with fail
      go_ret2
      exact ⟨_, us, _, rfl, U20.out, h61, by omega, by omega, R20.out.more (by omega), O20.out⟩
    · have b_e2 : (e2 == 0) = false := beq_eq_false_iff_ne.2 e_e2
      clear e_e2
      go_wp2_with fail
      refine (badTab2_len r _ g 0 gc zs.length zs w4 rfl R4.out (by omega) (BlkO.of_blk K4.out) hgc (by omega) (by omega) (by omega) (by omega)).mono ?_
      rintro e w20 ⟨u, us, rfl, hlu, h61, hR, hO⟩
      have U20 := hidH hlu
      have R20 := hidH hR
      have O20 := hidH (onto2_new O4.out hO (by omega))
      clear hlu hR hO
      go_wp2_with fail
      go_ret2
      exact ⟨_, us, _, rfl, U20.out, h61, by omega, by omega, R20.out.more (by omega), O20.out⟩
/-- A drawn slice of numbers, a place and a degree. -/
def DrawTfd (w : World) (e : Ending) (w' : World) : Prop := ∃ (v : Value) (zs : List Int) (f d : Int), e = .returned (.tuple #[v, .int .i64 f, .int .i64 d]) ∧ Lies w' (w.heap.size + 1) w'.heap.size v zs ∧ zs.length ≤ 61 ∧ -1 ≤ d ∧ d ≤ 7 ∧ Below w.heap.size w w'
end Go.Proofs.Ytgnoclnenhmakaa
