/-
  The draw of three tables, and mathematics of the vote. No conditions but that slices fit in memory.
-/
import Derived.Test.YthinpmhoklehaaaHouK
import Derived.Test.YthinpmhoklehaaaHouG
import Derived.Test.YthinpmhoklehaaaErrKb
import Derived.Test.YthinpmhoklehaaaBox
import Derived.OwnWalk
namespace Go.Proofs.Ythinpmhoklehaaa
set_option maxRecDepth 4000
open Go.RowKit
theorem lies0 (w : World) (a : Option Addr) (n cap : Nat) (hn : n = 0) (hm : cap ≤ maxLen) (ha : a = none → cap = 0) : Lies w 0 w.heap.size (.slice a n cap) [] := by
  subst hn
  exact (Row.nil _ _ _ _ _ hm ha).lies
/-- Three drawn slices of at most 61 numbers. -/
def DrawT3 (w : World) (e : Ending) (w' : World) : Prop := ∃ (v u x : Value) (zs ys xs : List Int), e = .returned (.tuple #[v, u, x]) ∧ Lies w' 0 w'.heap.size v zs ∧ Lies w' 0 w'.heap.size u ys ∧ Lies w' 0 w'.heap.size x xs ∧ zs.length ≤ 61 ∧ ys.length ≤ 61 ∧ xs.length ≤ 61 ∧ Below w.heap.size w w'
theorem Blk.at7 {w w' : World} {r c b : Nat} {zs : List Int} (H : Blk w b zs) (ho : Onto2 r c w w') (hr : b ≠ r) (hc : b ≠ c) : Blk w' b zs := by
  have hk := ho.block b H.1 hr hc
  refine ⟨Nat.lt_of_lt_of_le H.1 ho.size, fun j z hj => ?_⟩
  obtain ⟨x, y⟩ := H.2 j z hj
  exact ⟨by rw [World.cell?_of_block (w := w) hk]; exact x, by rw [World.frozen?_of_block (w := w) hk]; exact y⟩
theorem Blk.lies7 {w : World} {b : Nat} {zs : List Int} (H : Blk w b zs) {n cap : Nat} (hn : zs.length = n) (hc : n ≤ cap) (hm : cap ≤ maxLen) : Lies w 0 w.heap.size (.slice (some ⟨b, 0, none⟩) n cap) zs := by
  subst hn
  exact (H.row (Nat.zero_le _) H.1 hc hm rfl).lies
theorem Rd.at7 {w w' : World} {r c B : Nat} (h : Rd w r B) (ho : Onto2 c c w w') (hc : r < c) : Rd w' r B := h.low ⟨ho.os, ho.tape, ho.output, ho.size, fun k hk => ho.block k (by have := h.lt; omega) (by omega) (by omega)⟩
set_option maxHeartbeats 3200000 in
theorem drawVote (a : Option Addr) (len cap : Nat) (w : World) (hc : Came w a len cap) (hl : len ≤ 1048576) : Calls Try.prog 19 #[.slice a len cap] w (DrawT3 w) := by
  have HO := hidH (opened_any a len cap w hc hl)
  clear hc
  go_enter Try.func19, Try.ntmps19
  go_wp2_with fail
  refine HO.out.mono ?_
  rintro e w1 ⟨rfl, hR, hB⟩
  have R1 := hidH hR
  have BL1 := hidH hB
  have s1 := hB.size
  have hr1 := hR.lt
  clear hR hB HO
  go_wp2_with fail
  refine (tab_any w.heap.size 0 w1 R1.out (by omega)).mono ?_
  rintro e w2 ⟨v, zs, rfl, hr, hz1, hz2, hR, hO⟩
  have R2 := hidH hR
  have BL2 := hidH (BL1.out.trans (hO.below (Nat.le_refl _) s1))
  have s2 := hO.size
  obtain ⟨b0, cap0, rfl, hlc0, hcm0, hlo0, hhi0, hblk⟩ := hr.blk (by omega)
  unfold maxLen at hcm0
  have G0_2 := hidH hblk
  obtain ⟨i0, hi0, hz0, hz1', hz2'⟩ := info_parts infoInt
  have HOC := hidH (oneCells zs)
  have HIL := hidH (ints_length zs)
  clear hR hO hr hblk R1
  have HC := hidH (cells_map (w := w2) (b := b0) (off := 0) (zs := zs) (fun j z hj => by rw [Nat.zero_add]; exact (G0_2.out.2 j z hj).1))
  go_wp2_with (at_builtin; refine wpList_append_own _ rfl _ _ 23 rfl w2.heap.size 3 i0 (.int .i64 0) 1 8 Try.underlying23 hi0 hz0 hz1' hz2' rfl (by decide) _ _ _ rfl (World.ownsRow_made w2 #[] 0 (Nat.le_refl _) (Nat.zero_le _) rfl) ⟨b0, 0, none⟩ zs.length cap0 (ints zs) rfl ?qc1 ?qc2 HOC.out ?qc4 ?qc5 ?qc6 ?_)
  case qc1 => rw [HIL.out, Nat.mul_one]
  case qc2 => exact HC.out _ ((Below.refl _ _).alloc (Nat.le_refl _) _)
  case qc4 => unfold maxLen; omega
  case qc5 => omega
  case qc6 => simp
  intro v' w3 hown hgrow hnil
  have hbw := ((Below.refl w2.heap.size w2).alloc (Nat.le_refl _) (.cells #[] 3)).grown hgrow (by simp) (by intro k hk; simp [Value.ownBlock] at hk; omega)
  have R3 := hidH (R2.out.onto hbw)
  have BL3 := hidH (bThen BL2.out hbw)
  have hr := (row_of_owns hown).1
  obtain ⟨b1, cap_b1, rfl, hlc_b1, hcm_b1, hlo_b1, hhi_b1, hblk⟩ := hr.blk (by omega)
  unfold maxLen at hcm_b1
  have G1_3 := hidH hblk
  have s3 := hbw.size
  have G0_3 := hidH (G0_2.out.below hbw)
  clear hown hgrow hnil hr hblk hbw HC
  have HC := hidH (cells_map (w := w3) (b := b0) (off := 0) (zs := zs) (fun j z hj => by rw [Nat.zero_add]; exact (G0_3.out.2 j z hj).1))
  go_wp2_with (at_builtin; refine wpList_append_own _ rfl _ _ 23 rfl w3.heap.size 3 i0 (.int .i64 0) 1 8 Try.underlying23 hi0 hz0 hz1' hz2' rfl (by decide) _ _ _ rfl (World.ownsRow_made w3 #[] 0 (Nat.le_refl _) (Nat.zero_le _) rfl) ⟨b0, 0, none⟩ zs.length cap0 (ints zs) rfl ?qc1 ?qc2 HOC.out ?qc4 ?qc5 ?qc6 ?_)
  case qc1 => rw [HIL.out, Nat.mul_one]
  case qc2 => exact HC.out _ ((Below.refl _ _).alloc (Nat.le_refl _) _)
  case qc4 => unfold maxLen; omega
  case qc5 => omega
  case qc6 => simp
  intro v' w4 hown hgrow hnil
  have hbw := ((Below.refl w3.heap.size w3).alloc (Nat.le_refl _) (.cells #[] 3)).grown hgrow (by simp) (by intro k hk; simp [Value.ownBlock] at hk; omega)
  have R4 := hidH (R3.out.onto hbw)
  have BL4 := hidH (bThen BL3.out hbw)
  have hr := (row_of_owns hown).1
  obtain ⟨b2, cap_b2, rfl, hlc_b2, hcm_b2, hlo_b2, hhi_b2, hblk⟩ := hr.blk (by omega)
  unfold maxLen at hcm_b2
  have G2_4 := hidH hblk
  have s4 := hbw.size
  have G0_4 := hidH (G0_3.out.below hbw)
  have G1_4 := hidH (G1_3.out.below hbw)
  clear hown hgrow hnil hr hblk hbw HC
  clear HOC HIL
  go_wp2_with fail
  refine (pick_any 3 w.heap.size _ w4 R4.out (by omega)).mono ?_; rintro e w5 ⟨nys, rfl, nys0, nys1, hR, hO⟩
  have R5 := hidH hR
  have BL5 := hidH (BL4.out.trans (hO.below (Nat.le_refl _) BL4.out.size))
  have s5 := hO.size
  have G0_5 := hidH (G0_4.out.at7 (Onto2.of_onto (b := w.heap.size) hO) (by omega) (by omega))
  have G1_5 := hidH (G1_4.out.at7 (Onto2.of_onto (b := w.heap.size) hO) (by omega) (by omega))
  have G2_5 := hidH (G2_4.out.at7 (Onto2.of_onto (b := w.heap.size) hO) (by omega) (by omega))
  clear hR hO
  obtain ⟨q, rfl⟩ := Int.eq_ofNat_of_zero_le nys0
  have hq2 : q ≤ 2 := by have := nys1 (by omega); omega
  clear nys0 nys1
  have HBR := hidH (show Rd w5 w.heap.size (46 - 2 * q) from R5.out.more (by omega))
  go_wp2_with fail
  go_loopw [9] (fun i wr => ∃ (j : Nat) (ls : List Int), j ≤ 2 ∧ i = .int .i64 j ∧ ls.length = zs.length ∧ Blk wr b1 ls ∧ Rd wr w.heap.size (46 - 2 * j) ∧ Onto2 w.heap.size b1 w5 wr) (fun i _ => (intOf i).toNat)
  case atStart => exact ⟨q, zs, hq2, rfl, rfl, G1_5.out, HBR.out, Onto2.of_below (Below.refl _ _)⟩
  case round =>
    obtain ⟨j, ls, hj2, rfl, hyl, hK, hR, hO⟩ := hrel
    have K5 := hidH hK
    have Q5 := hidH hR
    have O5 := hidH hO
    have HYL := hidH hyl
    have so5 := hO.size
    clear hK hR hO
    by_cases hlt : 0 < j
    · clear hyl
      go_wp2_with fail
      refine (pick_any (zs.length : Int) w.heap.size _ wr Q5.out (by omega)).mono ?_; rintro e wa ⟨xa, rfl, xa0, xa1, hR, hO⟩
      have QA := hidH hR
      have OA := hidH (O5.out.trans (Onto2.of_onto hO))
      have KA := hidH (K5.out.at7 (Onto2.of_onto (b := w.heap.size) hO) (by omega) (by omega))
      clear hR hO
      have xa2 := xa1 (by omega)
      obtain ⟨xa, rfl⟩ := Int.eq_ofNat_of_zero_le xa0
      go_wp2_with fail
      refine (pick_any 5 w.heap.size _ wa QA.out (by omega)).mono ?_; rintro e wb ⟨xb, rfl, xb0, xb1, hR, hO⟩
      have QB := hidH hR
      have OB := hidH (OA.out.trans (Onto2.of_onto hO))
      have KB := hidH (KA.out.at7 (Onto2.of_onto (b := w.heap.size) hO) (by omega) (by omega))
      clear hR hO
      obtain ⟨y, hy⟩ := get_lt ls xa (by rw [HYL.out]; omega)
      obtain ⟨hcy, hfy⟩ := KB.out.2 xa y hy
      have HST := hidH (KB.out.set xa xb)
      have HSO := hidH (OB.out.trans (Onto2.setCell w.heap.size b1 xa wb (.int .i64 xb)))
      have HSR := hidH ((QB.out.low ((Below.refl (w.heap.size + 1) wb).setCell (p := ⟨b1, xa, none⟩) (by show w.heap.size + 1 ≤ b1; omega) (.int .i64 xb))).more (show 46 - 2 * j + 1 + 1 ≤ 46 - 2 * (j - 1) by omega))
      have hxz : xa < zs.length := by omega
      clear hy
      go_wp2_with fail
      go_roundw
      case rel => exact ⟨j - 1, ls.set xa xb, by omega, by go_num, by rw [List.length_set]; exact HYL.out, HST.out, HSR.out, HSO.out⟩
      case measure => simp [intOf]; omega
    · obtain ⟨w6, hw9⟩ : ∃ w9, w9 = wr := ⟨_, rfl⟩
      rw [← hw9] at K5 Q5 O5 so5
      subst hw9
      obtain rfl : j = 0 := by omega
      have R6 := Q5
      have BL6 := hidH (BL5.out.trans (O5.out.below (Nat.le_refl _) (by omega) BL5.out.size))
      have s6 := so5
      have G1_6 := K5
      obtain ⟨ys, hys⟩ : ∃ l, l = ls := ⟨_, rfl⟩
      rw [← hys] at G1_6 HYL
      have Lys := HYL
      clear hys HYL K5 Q5 hyl
      have G0_6 := hidH (G0_5.out.at7 O5.out (by omega) (by omega))
      have G2_6 := hidH (G2_5.out.at7 O5.out (by omega) (by omega))
      clear O5
      go_wp2_with fail
      refine (pick_any 3 w.heap.size _ w6 R6.out (by omega)).mono ?_; rintro e w7 ⟨nxs, rfl, nxs0, nxs1, hR, hO⟩
      have R7 := hidH hR
      have BL7 := hidH (BL6.out.trans (hO.below (Nat.le_refl _) BL6.out.size))
      have s7 := hO.size
      have G0_7 := hidH (G0_6.out.at7 (Onto2.of_onto (b := w.heap.size) hO) (by omega) (by omega))
      have G1_7 := hidH (G1_6.out.at7 (Onto2.of_onto (b := w.heap.size) hO) (by omega) (by omega))
      have G2_7 := hidH (G2_6.out.at7 (Onto2.of_onto (b := w.heap.size) hO) (by omega) (by omega))
      clear hR hO
      obtain ⟨q, rfl⟩ := Int.eq_ofNat_of_zero_le nxs0
      have hq2 : q ≤ 2 := by have := nxs1 (by omega); omega
      clear nxs0 nxs1
      have HBR := hidH (show Rd w7 w.heap.size (52 - 2 * q) from R7.out.more (by omega))
      go_wp2_with fail
      go_loopw [10] (fun i wr => ∃ (j : Nat) (ls : List Int), j ≤ 2 ∧ i = .int .i64 j ∧ ls.length = zs.length ∧ Blk wr b2 ls ∧ Rd wr w.heap.size (52 - 2 * j) ∧ Onto2 w.heap.size b2 w7 wr) (fun i _ => (intOf i).toNat)
      case atStart => exact ⟨q, zs, hq2, rfl, rfl, G2_7.out, HBR.out, Onto2.of_below (Below.refl _ _)⟩
      case round =>
        obtain ⟨j, ls, hj2, rfl, hyl, hK, hR, hO⟩ := hrel
        have K5 := hidH hK
        have Q5 := hidH hR
        have O5 := hidH hO
        have HYL := hidH hyl
        have so5 := hO.size
        clear hK hR hO
        by_cases hlt : 0 < j
        · clear hyl
          go_wp2_with fail
          refine (pick_any (zs.length : Int) w.heap.size _ wr Q5.out (by omega)).mono ?_; rintro e wa ⟨xa, rfl, xa0, xa1, hR, hO⟩
          have QA := hidH hR
          have OA := hidH (O5.out.trans (Onto2.of_onto hO))
          have KA := hidH (K5.out.at7 (Onto2.of_onto (b := w.heap.size) hO) (by omega) (by omega))
          clear hR hO
          have xa2 := xa1 (by omega)
          obtain ⟨xa, rfl⟩ := Int.eq_ofNat_of_zero_le xa0
          go_wp2_with fail
          refine (pick_any 5 w.heap.size _ wa QA.out (by omega)).mono ?_; rintro e wb ⟨xb, rfl, xb0, xb1, hR, hO⟩
          have QB := hidH hR
          have OB := hidH (OA.out.trans (Onto2.of_onto hO))
          have KB := hidH (KA.out.at7 (Onto2.of_onto (b := w.heap.size) hO) (by omega) (by omega))
          clear hR hO
          obtain ⟨y, hy⟩ := get_lt ls xa (by rw [HYL.out]; omega)
          obtain ⟨hcy, hfy⟩ := KB.out.2 xa y hy
          have HST := hidH (KB.out.set xa xb)
          have HSO := hidH (OB.out.trans (Onto2.setCell w.heap.size b2 xa wb (.int .i64 xb)))
          have HSR := hidH ((QB.out.low ((Below.refl (w.heap.size + 1) wb).setCell (p := ⟨b2, xa, none⟩) (by show w.heap.size + 1 ≤ b2; omega) (.int .i64 xb))).more (show 52 - 2 * j + 1 + 1 ≤ 52 - 2 * (j - 1) by omega))
          have hxz : xa < zs.length := by omega
          clear hy
          go_wp2_with fail
          go_roundw
          case rel => exact ⟨j - 1, ls.set xa xb, by omega, by go_num, by rw [List.length_set]; exact HYL.out, HST.out, HSR.out, HSO.out⟩
          case measure => simp [intOf]; omega
        · obtain ⟨w8, hw9⟩ : ∃ w9, w9 = wr := ⟨_, rfl⟩
          rw [← hw9] at K5 Q5 O5 so5
          subst hw9
          obtain rfl : j = 0 := by omega
          have R8 := Q5
          have BL8 := hidH (BL7.out.trans (O5.out.below (Nat.le_refl _) (by omega) BL7.out.size))
          have s8 := so5
          have G2_8 := K5
          obtain ⟨xs, hxs⟩ : ∃ l, l = ls := ⟨_, rfl⟩
          rw [← hxs] at G2_8 HYL
          have Lxs := HYL
          clear hxs HYL K5 Q5 hyl
          have G0_8 := hidH (G0_7.out.at7 O5.out (by omega) (by omega))
          have G1_8 := hidH (G1_7.out.at7 O5.out (by omega) (by omega))
          clear O5
          go_wp2_with fail
          refine (pick_any 12 w.heap.size _ w8 R8.out (by omega)).mono ?_; rintro e w9 ⟨x, rfl, x0, x1, hR, hO⟩
          have R9 := hidH hR
          have BL9 := hidH (BL8.out.trans (hO.below (Nat.le_refl _) BL8.out.size))
          have s9 := hO.size
          have G0_9 := hidH (G0_8.out.at7 (Onto2.of_onto (b := w.heap.size) hO) (by omega) (by omega))
          have G1_9 := hidH (G1_8.out.at7 (Onto2.of_onto (b := w.heap.size) hO) (by omega) (by omega))
          have G2_9 := hidH (G2_8.out.at7 (Onto2.of_onto (b := w.heap.size) hO) (by omega) (by omega))
          clear hR hO
          by_cases e1 : x = 0
          · have c1 : (x == 0) = true := beq_iff_eq.2 e1
            go_wp2_with fail
            go_ret3
            exact ⟨_, _, _, ys, xs, zs, rfl, (G1_9.out.lies7 Lys.out hlc_b1 (by unfold maxLen; omega)), (G2_9.out.lies7 Lxs.out hlc_b2 (by unfold maxLen; omega)), (G0_9.out.lies7 rfl hlc0 (by unfold maxLen; omega)), by rw [Lys.out]; omega, by rw [Lxs.out]; omega, by omega, BL9.out⟩
          · have c1 : (x == 0) = false := beq_eq_false_iff_ne.2 e1
            clear e1
            by_cases e1 : x = 1
            · have c2 : (x == 1) = true := beq_iff_eq.2 e1
              go_wp2_with fail
              go_ret3
              exact ⟨_, _, _, ys, zs, xs, rfl, (G1_9.out.lies7 Lys.out hlc_b1 (by unfold maxLen; omega)), (G0_9.out.lies7 rfl hlc0 (by unfold maxLen; omega)), (G2_9.out.lies7 Lxs.out hlc_b2 (by unfold maxLen; omega)), by rw [Lys.out]; omega, by omega, by rw [Lxs.out]; omega, BL9.out⟩
            · have c2 : (x == 1) = false := beq_eq_false_iff_ne.2 e1
              clear e1
              by_cases e1 : x = 2
              · have c3 : (x == 2) = true := beq_iff_eq.2 e1
                by_cases hcap : cap0 = 1
                · have hz1' : zs.length = 1 := by omega
                  have hne : ¬ zs.length = 0 := by omega
                  go_wp2_with fail
                  go_ret3
                  exact ⟨_, _, _, [], ys, xs, rfl, lies0 _ _ _ _ (by omega) (by unfold maxLen; omega) (fun h => by cases h), (G1_9.out.lies7 (Lys.out.trans hz1') (by omega) (by unfold maxLen; omega)), (G2_9.out.lies7 (Lxs.out.trans hz1') (by omega) (by unfold maxLen; omega)), by simp, by rw [Lys.out]; omega, by rw [Lxs.out]; omega, BL9.out⟩
                · go_wp2_with fail
                  go_ret3
                  exact ⟨_, _, _, zs.drop 1, ys, xs, rfl, lies_drop 1 _ _ (by omega) rfl hlc0 (by unfold maxLen; omega) (Nat.zero_le _) G0_9.out.1 (fun j z hj => by rw [Nat.zero_add]; exact (G0_9.out.2 j z hj).1), (G1_9.out.lies7 Lys.out hlc_b1 (by unfold maxLen; omega)), (G2_9.out.lies7 Lxs.out hlc_b2 (by unfold maxLen; omega)), by rw [List.length_drop]; omega, by rw [Lys.out]; omega, by rw [Lxs.out]; omega, BL9.out⟩
              · have c3 : (x == 2) = false := beq_eq_false_iff_ne.2 e1
                clear e1
                go_wp2_with fail
                refine (badTab2_len w.heap.size _ b1 0 cap_b1 zs.length ys w9 Lys.out R9.out (by omega) (BlkO.of_blk G1_9.out) hlc_b1 (by omega) (by omega) (by omega) (by omega)).mono ?_
                rintro e w10 ⟨u, us, rfl, hl, h61, hR, hO⟩
                have hU := hidH (hl.mono (Nat.zero_le _) (Nat.le_refl _))
                have BL10 := hidH (BL9.out.trans (hO.below (Nat.le_refl _) (by omega) BL9.out.size))
                have G0_10 := hidH (G0_9.out.at7 hO (by omega) (by omega))
                have G2_10 := hidH (G2_9.out.at7 hO (by omega) (by omega))
                clear hl hR hO
                obtain ⟨ua, un, uc, huf⟩ : ∃ a2 n2 c2, u = .slice a2 n2 c2 := by
                  obtain ⟨a2, c2, e, _⟩ := hU.out
                  exact ⟨a2, _, c2, e⟩
                subst huf
                go_wp2_with fail
                go_ret3
                exact ⟨_, _, _, zs, us, xs, rfl, (G0_10.out.lies7 rfl hlc0 (by unfold maxLen; omega)), hU.out, (G2_10.out.lies7 Lxs.out hlc_b2 (by unfold maxLen; omega)), by omega, h61, by rw [Lxs.out]; omega, BL10.out⟩
theorem maj_sym (a b c : Int) : majOk c a b = majOk a b c ∧ majOk b a c = majOk a b c ∧ (majOk a b c = true → majV c a b = majV a b c ∧ majV b a c = majV a b c) := by
  unfold majOk majV
  by_cases h1 : a = b
  · subst h1
    by_cases h2 : a = c
    · subst h2; simp
    · have h3 : (a == c) = false := beq_eq_false_iff_ne.2 h2
      have h4 : (c == a) = false := beq_eq_false_iff_ne.2 (fun e => h2 e.symm)
      simp [h3, h4]
  · have h3 : (a == b) = false := beq_eq_false_iff_ne.2 h1
    have h4 : (b == a) = false := beq_eq_false_iff_ne.2 (fun e => h1 e.symm)
    by_cases h2 : a = c
    · subst h2; simp [h3, h4]
    · have h5 : (a == c) = false := beq_eq_false_iff_ne.2 h2
      have h6 : (c == a) = false := beq_eq_false_iff_ne.2 (fun e => h2 e.symm)
      by_cases h7 : b = c
      · subst h7; simp [h3, h4]
      · have h8 : (b == c) = false := beq_eq_false_iff_ne.2 h7
        have h9 : (c == b) = false := beq_eq_false_iff_ne.2 (fun e => h7 e.symm)
        simp [h3, h4, h5, h6, h8, h9]
theorem three_turn (x y z : List Int) : threeOk z x y = threeOk x y z ∧ threeOk y x z = threeOk x y z ∧ threeOk y z x = threeOk x y z := by
  rw [three_eq, three_eq, three_eq, three_eq]
  by_cases h1 : x.length = y.length
  · by_cases h2 : x.length = z.length
    · rw [decide_eq_true h1, decide_eq_true h2, decide_eq_true (show z.length = x.length by omega), decide_eq_true (show z.length = y.length by omega), decide_eq_true (show y.length = x.length by omega), decide_eq_true (show y.length = z.length by omega)]
      cases tableOk x <;> cases tableOk y <;> cases tableOk z <;> exact ⟨rfl, rfl, rfl⟩
    · rw [decide_eq_false h2, decide_eq_false (show ¬ z.length = x.length by omega), decide_eq_false (show ¬ y.length = z.length by omega)]
      cases tableOk x <;> cases tableOk y <;> cases tableOk z <;> cases decide (x.length = y.length) <;> cases decide (y.length = x.length) <;> cases decide (z.length = y.length) <;> exact ⟨rfl, rfl, rfl⟩
  · rw [decide_eq_false h1, decide_eq_false (show ¬ y.length = x.length by omega)]
    by_cases h2 : z.length = x.length
    · rw [decide_eq_false (show ¬ z.length = y.length by omega), decide_eq_false (show ¬ y.length = z.length by omega)]
      cases tableOk x <;> cases tableOk y <;> cases tableOk z <;> simp
    · rw [decide_eq_false h2]
      cases tableOk x <;> cases tableOk y <;> cases tableOk z <;> simp
theorem vote_turn (x y z : List Int) : (voteOk z x y = voteOk x y z ∧ voteA z x y = voteA x y z) ∧ (voteOk y x z = voteOk x y z ∧ voteA y x z = voteA x y z) := by
  have ⟨t1, t2, _⟩ := three_turn x y z
  cases h : threeOk x y z
  · have e0 : voteOk x y z = false := by rw [voteOk, h]; rfl
    have e1 : voteOk z x y = false := by rw [voteOk, t1, h]; rfl
    have e2 : voteOk y x z = false := by rw [voteOk, t2, h]; rfl
    unfold voteA
    rw [e0, e1, e2]
    exact ⟨⟨rfl, rfl⟩, ⟨rfl, rfl⟩⟩
  · obtain ⟨_, _, _, l1, l2⟩ := threeOk_parts h
    have hs (i : Nat) := maj_sym (x.getD i 0) (y.getD i 0) (z.getD i 0)
    have a1 : agreeOk z x y = agreeOk x y z := by
      unfold agreeOk
      rw [← l2]
      congr 1
      funext i
      exact (hs i).1
    have a2 : agreeOk y x z = agreeOk x y z := by
      unfold agreeOk
      rw [← l1]
      congr 1
      funext i
      exact (hs i).2.1
    have o1 : voteOk z x y = voteOk x y z := by rw [voteOk, voteOk, t1, a1]
    have o2 : voteOk y x z = voteOk x y z := by rw [voteOk, voteOk, t2, a2]
    refine ⟨⟨o1, ?_⟩, ⟨o2, ?_⟩⟩
    · unfold voteA
      rw [o1]
      cases ho : voteOk x y z
      · rfl
      · rw [if_pos rfl, if_pos rfl]
        rw [voteOk, Bool.and_eq_true] at ho
        unfold voteL
        rw [← l2]
        apply List.map_congr_left
        intro i hi
        exact ((hs i).2.2 (List.all_eq_true.1 ho.2 i hi)).1
    · unfold voteA
      rw [o2]
      cases ho : voteOk x y z
      · rfl
      · rw [if_pos rfl, if_pos rfl]
        rw [voteOk, Bool.and_eq_true] at ho
        unfold voteL
        rw [← l1]
        apply List.map_congr_left
        intro i hi
        exact ((hs i).2.2 (List.all_eq_true.1 ho.2 i hi)).2
theorem vote_two (x y z t : List Int) (h : threeOk x y z = true) (hl : t.length = x.length) (hm : ∀ i, i < x.length → majOk (x.getD i 0) (y.getD i 0) (z.getD i 0) = true ∧ majV (x.getD i 0) (y.getD i 0) (z.getD i 0) = t.getD i 0) : voteOk x y z = true ∧ voteA x y z = t := by
  have ha : agreeOk x y z = true := agree_of fun j hj => (hm j hj).1
  have ⟨e1, e2⟩ := vote_yes h ha
  refine ⟨e1, e2.trans ?_⟩
  apply List.ext_getElem?
  intro i
  by_cases hi : i < x.length
  · obtain ⟨q, hq⟩ := get_lt t i (by omega)
    rw [hq]
    unfold voteL
    rw [List.getElem?_map, List.getElem?_range hi]
    show some (majV (x.getD i 0) (y.getD i 0) (z.getD i 0)) = some q
    rw [(hm i hi).2, getD_some hq]
  · rw [List.getElem?_eq_none (by rw [voteL_length]; omega), List.getElem?_eq_none (by omega)]
theorem vote_ab (x z : List Int) (h : threeOk x x z = true) : voteOk x x z = true ∧ voteA x x z = x := vote_two x x z x h rfl fun i _ => by simp [majOk, majV]
theorem vote_ac (x y : List Int) (h : threeOk x y x = true) : voteOk x y x = true ∧ voteA x y x = x := vote_two x y x x h rfl fun i _ => by simp [majOk, majV]
theorem vote_bc (x y : List Int) (h : threeOk x y y = true) : voteOk x y y = true ∧ voteA x y y = y := vote_two x y y y h (by have := (threeOk_parts h).2.2.2.1; omega) fun i _ => by
  constructor
  · simp [majOk]
  · unfold majV
    cases e : (x.getD i 0 == y.getD i 0)
    · rfl
    · exact beq_iff_eq.1 e
theorem fault_turn (x y z : List Int) : (faultV x y z = -1 → faultV y z x = -1) ∧ (faultV x y z = 0 → faultV y z x = 2) ∧ (faultV x y z = 1 → faultV y z x = 0) ∧ (faultV x y z = 2 → faultV y z x = 1) ∧ (faultV x y z = -2 → faultV y z x = -2) := by
  rcases fault_cases x y z with ⟨h1, h2, h3, hv⟩ | ⟨h1, h2, h3, hv⟩ | ⟨h1, h2, h3, hv⟩ | ⟨h1, h2, h3, hv⟩ | ⟨h1, h2, h3, hv⟩ <;> rcases fault_cases y z x with ⟨g1, g2, g3, gv⟩ | ⟨g1, g2, g3, gv⟩ | ⟨g1, g2, g3, gv⟩ | ⟨g1, g2, g3, gv⟩ | ⟨g1, g2, g3, gv⟩ <;> first | (exfalso; exact g1 h3) | (exfalso; exact h3 g1) | (exfalso; exact g2 h1.symm) | (exfalso; exact h1 g2.symm) | (exfalso; exact g3 h2.symm) | (exfalso; exact h2 g3.symm) | (rw [hv, gv]; omega)
end Go.Proofs.Ythinpmhoklehaaa
