/-
  The draws of two tables for the laws of chapter 4. No conditions but that the bytes that came in can be read.
-/
import Derived.Test.YtlicihjjbojpcaaErrKb
import Derived.Test.YtlicihjjbojpcaaErrD
namespace Go.Proofs.Ytlicihjjbojpcaa
set_option maxRecDepth 4000
open Go.RowKit
/-- Two drawn slices of numbers. -/
def DrawT2 (w : World) (e : Ending) (w' : World) : Prop := ∃ (v u : Value) (zs ys : List Int), e = .returned (.tuple #[v, u]) ∧ Lies w' 0 w'.heap.size v zs ∧ Lies w' 0 w'.heap.size u ys ∧ zs.length ≤ 61 ∧ ys.length ≤ 61 ∧ Below w.heap.size w w'
theorem effA_short (c t a : Int) (n : Nat) : (effA c t a (n : Int)).length ≤ n := by
  unfold effA
  split
  · rw [effL_length]; simp
  · simp
theorem Onto.trans_new {r b : Nat} {u v w : World} (h : Onto r u v) (k : Onto b v w) (hb : u.heap.size ≤ b) : Onto r u w :=
  ⟨k.os.trans h.os, k.tape.trans h.tape, k.output.trans h.output, Nat.le_trans h.size k.size, fun j hj hr => (k.block j (Nat.lt_of_lt_of_le hj h.size) (by omega)).trans (h.block j hj hr)⟩
theorem Blk.onto {w w' : World} {r b : Nat} {zs : List Int} (H : Blk w b zs) (ho : Onto r w w') (hr : r < b) : Blk w' b zs := H.apart (lo := r) (hi := r + 1) (Apart.of_onto ho (Nat.le_refl _) (Nat.lt_succ_self _)) (.inr hr)
set_option maxHeartbeats 3200000 in
theorem drawDiagnoseSlip (a : Option Addr) (len cap : Nat) (w : World) (hc : Came w a len cap) (hl : len ≤ 1048576) : Calls Try.prog 61 #[.slice a len cap] w (DrawT2 w) := by
  have HO := hidH (opened_any a len cap w hc hl)
  clear hc
  go_enter Try.func61, Try.ntmps61
  go_wp2_with fail
  refine HO.out.mono ?_
  rintro e w1 ⟨rfl, hR, hB⟩
  have R1 := hidH hR
  have B1 := hidH hB
  have s1 := hB.size
  have hr1 := hR.lt
  clear hR hB HO
  go_wp2_with fail
  refine (tab4_any w.heap.size 0 w1 R1.out (by omega)).mono ?_
  rintro e w2 ⟨g, gc, d, zs, rfl, hG, hg1, hgc, hgm, hd6, hz1, hz2, hR, hO⟩
  have G2 := hidH hG
  have R2 := hidH hR
  have O2 := hidH hO
  clear hG hR hO R1
  go_wp2_with fail
  refine (turn4_any w.heap.size _ w2 R2.out (by omega)).mono ?_
  rintro e w3 ⟨c, t, m, rfl, hR, hO⟩
  have R3 := hidH hR
  have O3 := hidH (O2.out.trans hO)
  have G3 := hidH (G2.out.onto hO (by omega))
  clear hR hO R2 O2 G2
  go_wp2_with fail
  refine (sSlipE_any c t m (zs.length : Int) w3).mono ?_; rintro e w4 ⟨ev, rfl, hr, hb⟩
  have hel := effA_short c t m zs.length
  generalize effA c t m (zs.length : Int) = es at *
  generalize effOk c t m (zs.length : Int) = eb at *
  obtain ⟨ea, ec, rfl, hec, hecm, _, hecell⟩ := hr.lies
  have HEC := hidH hecell
  have R4 := hidH (R3.out.onto hb)
  have O4 := hidH (O3.out.trans (Onto.of_below hb))
  have G4 := hidH (G3.out.below hb)
  unfold maxLen at hecm
  clear hr hb R3 O3 G3 hecell
  obtain ⟨i0, hi0, hz0, hz1', hz2'⟩ := info_parts infoInt
  have HC := hidH (cells_map (w := w4) (b := g) (off := 0) (zs := zs) (fun j z hj => by rw [Nat.zero_add]; exact (G4.out.2 j z hj).1))
  have HOC := hidH (oneCells zs)
  have HIL := hidH (ints_length zs)
  go_wp2_with (at_builtin; refine wpList_append_own _ rfl _ _ 23 rfl w4.heap.size 3 i0 (.int .i64 0) 1 8 Try.underlying23 hi0 hz0 hz1' hz2' rfl (by decide) _ _ _ rfl (World.ownsRow_made w4 #[] 0 (Nat.le_refl _) (Nat.zero_le _) rfl) ⟨g, 0, none⟩ zs.length gc (ints zs) rfl ?qc1 ?qc2 HOC.out ?qc4 ?qc5 ?qc6 ?_)
  case qc1 => rw [HIL.out, Nat.mul_one]
  case qc2 => exact HC.out _ ((Below.refl _ _).alloc (Nat.le_refl _) _)
  case qc4 => unfold maxLen; omega
  case qc5 => omega
  case qc6 => simp
  intro v' w5 hown hgrow hnil
  have hbw := ((Below.refl w4.heap.size w4).alloc (Nat.le_refl _) (.cells #[] 3)).grown hgrow (by simp) (by intro k hk; simp [Value.ownBlock] at hk; omega)
  have R5 := hidH (R4.out.onto hbw)
  have O5 := hidH (O4.out.trans (Onto.of_below hbw))
  have G5 := hidH (G4.out.below hbw)
  have HEC5 := hidH (fun (j : Nat) z (hj : es[j]? = some z) => show ∃ b off, ea = some ⟨b, off, none⟩ ∧ b < w4.heap.size ∧ w5.cell? ⟨b, off + j, none⟩ = some (.int .i64 z) from by
    obtain ⟨b, off, e, _, hb2, hcc⟩ := HEC.out j z hj
    exact ⟨b, off, e, hb2, by rw [hbw.cell (p := ⟨b, off + j, none⟩) hb2]; exact hcc⟩)
  have hr := (row_of_owns hown).1
  obtain ⟨b8, c8, rfl, hlc8, hcm8, hlo8, hhi8, hblk⟩ := hr.blk (by omega)
  have K5 := hidH hblk
  have hg4 := G4.out.1
  have hr4 := R4.out.lt
  have O2s := O4.out.size
  unfold maxLen at hcm8
  clear hown hgrow hnil hr hblk HC HOC HIL hbw R4 O4 G4 HEC
  go_wp2_with fail
  go_loopw [13] (fun i wr => ∃ (k : Nat) (ys : List Int), k ≤ es.length ∧ i = .int .i64 k ∧ ys.length = zs.length ∧ Blk wr b8 ys ∧ Onto b8 w5 wr) (fun i _ => es.length - (intOf i).toNat)
  case atStart => exact ⟨0, zs, Nat.zero_le _, rfl, rfl, K5.out, Onto.refl _ _⟩
  case round =>
    obtain ⟨k, ys, hk, rfl, hyl, hK, hO⟩ := hrel
    have K6 := hidH hK
    have O6 := hidH hO
    have HYL := hidH hyl
    clear hK hO
    by_cases hlt : k < es.length
    · obtain ⟨x, hx⟩ := get_lt es k hlt
      obtain ⟨y, hy⟩ := get_lt ys k (by omega)
      obtain ⟨be, oe, rfl, hbe, hce⟩ := HEC5.out k x hx
      have hcw : wr.cell? ⟨be, oe + k, none⟩ = some (.int .i64 x) := by rw [O6.out.cell (p := ⟨be, oe + k, none⟩) (by show be < w5.heap.size; omega) (by show be ≠ b8; omega)]; exact hce
      obtain ⟨hcy, hfy⟩ := K6.out.2 k y hy
      have HST := hidH (fun v => (K6.out.set k v).drewN 1)
      have HOS := hidH (fun v => show Onto b8 w5 (wr.setCell ⟨b8, k, none⟩ v).drew from (O6.out.trans (Onto.setCell b8 k wr v)).drewN 1)
      have hkz : k < zs.length := by omega
      clear hx hy hce hyl
      go_wp2_with fail
      go_region
      go_wp2_with fail
      go_roundw
      case rel => exact ⟨k + 1, ys.set k _, by omega, by go_num, by rw [List.length_set]; exact HYL.out, HST.out _, HOS.out _⟩
      case measure => simp [intOf]; omega
    · obtain ⟨w6, hw6⟩ : ∃ w6, w6 = wr := ⟨_, rfl⟩
      rw [← hw6] at K6 O6
      subst hw6
      have R6 := hidH (R5.out.low (O6.out.below (B := w.heap.size + 1) (by omega) (by have := R5.out.lt; omega)))
      have O7 := hidH (O5.out.trans_new O6.out (by have := O5.out.size; have := O2s; omega))
      have G6 := hidH (G5.out.apart (lo := b8) (hi := b8 + 1) (Apart.of_onto O6.out (Nat.le_refl _) (Nat.lt_succ_self _)) (by omega))
      have s6 := O6.out.size
      clear R5 O5 G5 HEC5 K5 O6 hyl
      go_wp2_with fail
      refine (pick_any 12 w.heap.size _ w6 R6.out (by omega)).mono ?_
      rintro e w7 ⟨x, rfl, x0, x1, hR, hO⟩
      have R7 := hidH hR
      have O8 := hidH (O7.out.trans hO)
      have G7 := hidH (G6.out.onto hO (by omega))
      have K7 := hidH (K6.out.onto hO (by omega))
      clear x0 x1 hR hO R6 O7 G6 K6
      by_cases e0 : x = 0
      · have b0 : (x == 0) = true := beq_iff_eq.2 e0
        clear e0
        go_wp2_with fail
        refine (pick_any zs.length w.heap.size _ w7 R7.out (by omega)).mono ?_
        rintro e w10 ⟨x2, rfl, p0, p1, hR, hO⟩
        have p2 := p1 (by omega)
        have R10 := hidH hR
        have O10 := hidH (O8.out.trans hO)
        have G10 := hidH (G7.out.onto hO (by omega))
        have K10 := hidH (K7.out.onto hO (by omega))
        clear p1 hR hO R7 O8 G7 K7
        obtain ⟨k2, rfl⟩ := Int.eq_ofNat_of_zero_le p0
        go_wp2_with fail
        refine (pick_any 9 w.heap.size _ w10 R10.out (by omega)).mono ?_
        rintro e w11 ⟨x3, rfl, q0, q1, hR, hO⟩
        have R11 := hidH hR
        have O11 := hidH (O10.out.trans hO)
        have G11 := hidH (G10.out.onto hO (by omega))
        have K11 := hidH (K10.out.onto hO (by omega))
        clear q0 q1 hR hO R10 O10 G10 K10
        obtain ⟨y, hy⟩ := get_lt ys k2 (by rw [HYL.out]; omega)
        obtain ⟨hcy, hfy⟩ := K11.out.2 k2 y hy
        have K12 := hidH (BlkO.of_blk (K11.out.set k2 x3))
        have R12 := hidH (R11.out.low ((Onto.setCell b8 k2 w11 (.int .i64 x3)).below (B := w.heap.size + 1) (by omega) (by have := R11.out.lt; omega)))
        have O12 := hidH (O11.out.trans_new (Onto.setCell b8 k2 w11 (.int .i64 x3)) (by omega))
        have G12 := hidH (G11.out.apart (lo := b8) (hi := b8 + 1) (Apart.of_onto (Onto.setCell b8 k2 w11 (.int .i64 x3)) (Nat.le_refl _) (Nat.lt_succ_self _)) (by omega))
        have HSL := hidH (show (ys.set k2 x3).length = zs.length by rw [List.length_set]; exact HYL.out)
        clear hy R11 O11 G11 K11
        go_wp2_with fail
        generalize w11.setCell ⟨b8, k2, none⟩ (.int .i64 x3) = w12 at *
        generalize ys.set k2 x3 = ys2 at *
        go_wp2_with fail
        refine (badTab2_len w.heap.size _ b8 0 c8 _ ys2 w12 HSL.out R12.out (by omega) K12.out (by omega) (by omega) (by omega) (by omega) (by omega)).mono ?_
        rintro e w9 ⟨u, us, rfl, hl, h61, hR, hO⟩
        have hU := hidH (hl.mono (Nat.zero_le _) (Nat.le_refl _))
        have O9 := hidH hO
        clear hl hR hO
        obtain ⟨ua, un, uc, huf⟩ : ∃ a2 n2 c2, u = .slice a2 n2 c2 := by
          obtain ⟨a2, c2, e, _⟩ := hU.out
          exact ⟨a2, _, c2, e⟩
        subst huf
        go_wp2_with fail
        go_ret2
        refine ⟨_, _, zs, us, rfl, ?_, hU.out, by omega, h61, ?_⟩
        · exact (G12.out.row (lo := g) (hi := g + 1) (Nat.le_refl _) (Nat.lt_succ_self _) hgc (by unfold maxLen; omega) rfl).lies.onto2 O9.out (.inl (by omega)) (by omega) |>.top
        · exact (B1.out.trans (O12.out.below (Nat.le_refl _) s1)).trans (O9.out.below (Nat.le_refl _) (by omega) (by have := B1.out.size; have := O12.out.size; omega))
      · have b0 : (x == 0) = false := beq_eq_false_iff_ne.2 e0
        by_cases e1 : x = 1
        · have b1 : (x == 1) = true := beq_iff_eq.2 e1
          clear e0 e1
          have K8 := hidH (BlkO.of_blk K7.out).tail
          go_wp2_with fail
          refine (badTab2_len w.heap.size _ b8 (0 + 1) (c8 - 1) _ ys.tail w7 (by rw [List.length_tail, HYL.out]) R7.out (by omega) K8.out (by omega) (by omega) (by omega) (by omega) (by omega)).mono ?_
          rintro e w9 ⟨u, us, rfl, hl, h61, hR, hO⟩
          have hU := hidH (hl.mono (Nat.zero_le _) (Nat.le_refl _))
          have O9 := hidH hO
          clear hl hR hO
          obtain ⟨ua, un, uc, huf⟩ : ∃ a2 n2 c2, u = .slice a2 n2 c2 := by
            obtain ⟨a2, c2, e, _⟩ := hU.out
            exact ⟨a2, _, c2, e⟩
          subst huf
          go_wp2_with fail
          go_ret2
          refine ⟨_, _, zs, us, rfl, ?_, hU.out, by omega, h61, ?_⟩
          · exact (G7.out.row (lo := g) (hi := g + 1) (Nat.le_refl _) (Nat.lt_succ_self _) hgc (by unfold maxLen; omega) rfl).lies.onto2 O9.out (.inl (by omega)) (by omega) |>.top
          · exact (B1.out.trans (O8.out.below (Nat.le_refl _) s1)).trans (O9.out.below (Nat.le_refl _) (by omega) (by have := B1.out.size; have := O8.out.size; omega))
        · have b1 : (x == 1) = false := beq_eq_false_iff_ne.2 e1
          clear e0 e1
          have K8 := hidH (BlkO.of_blk K7.out)
          go_wp2_with fail
          refine (badTab2_len w.heap.size _ b8 0 c8 _ ys w7 HYL.out R7.out (by omega) K8.out (by omega) (by omega) (by omega) (by omega) (by omega)).mono ?_
          rintro e w9 ⟨u, us, rfl, hl, h61, hR, hO⟩
          have hU := hidH (hl.mono (Nat.zero_le _) (Nat.le_refl _))
          have O9 := hidH hO
          clear hl hR hO
          obtain ⟨ua, un, uc, huf⟩ : ∃ a2 n2 c2, u = .slice a2 n2 c2 := by
            obtain ⟨a2, c2, e, _⟩ := hU.out
            exact ⟨a2, _, c2, e⟩
          subst huf
          go_wp2_with fail
          go_ret2
          refine ⟨_, _, zs, us, rfl, ?_, hU.out, by omega, h61, ?_⟩
          · exact (G7.out.row (lo := g) (hi := g + 1) (Nat.le_refl _) (Nat.lt_succ_self _) hgc (by unfold maxLen; omega) rfl).lies.onto2 O9.out (.inl (by omega)) (by omega) |>.top
          · exact (B1.out.trans (O8.out.below (Nat.le_refl _) s1)).trans (O9.out.below (Nat.le_refl _) (by omega) (by have := B1.out.size; have := O8.out.size; omega))
theorem drawErrataOf (a : Option Addr) (len cap : Nat) (w : World) (hc : Came w a len cap) (hl : len ≤ 1048576) : Calls Try.prog 23 #[.slice a len cap] w (DrawT2 w) := by
  have HD := hidH (drawDiagnoseSlip a len cap w hc hl)
  clear hc
  go_enter Try.func23, Try.ntmps23
  go_wp2_with fail
  refine HD.out.mono ?_
  rintro e w1 ⟨v, u, zs, ys, rfl, hv, hu, h1, h2, hB⟩
  have V1 := hidH hv
  have U1 := hidH hu
  have B1 := hidH hB
  clear hv hu hB HD
  go_wp2_with fail
  go_ret2
  exact ⟨v, u, zs, ys, rfl, V1.out, U1.out, h1, h2, B1.out⟩
end Go.Proofs.Ytlicihjjbojpcaa
