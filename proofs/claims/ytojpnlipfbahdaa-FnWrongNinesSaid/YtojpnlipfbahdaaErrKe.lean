/-
  The draw of a table and remainders for a law of chapter 4. No conditions but that the bytes that came in can be read.
-/
import Derived.Test.YtojpnlipfbahdaaErrKb
import Derived.Test.YtojpnlipfbahdaaErrF
namespace Go.Proofs.Ytojpnlipfbahdaa
set_option maxRecDepth 4000
open Go.RowKit
/-- Two drawn slices of numbers. -/
def DrawT2b (w : World) (e : Ending) (w' : World) : Prop := ∃ (v u : Value) (zs ys : List Int), e = .returned (.tuple #[v, u]) ∧ Lies w' 0 w'.heap.size v zs ∧ Lies w' 0 w'.heap.size u ys ∧ zs.length ≤ 61 ∧ ys.length ≤ 100 ∧ (∀ x ∈ ys, 0 ≤ x ∧ x ≤ 8) ∧ Below w.heap.size w w'
theorem Onto.trans_newb {r b : Nat} {u v w : World} (h : Onto r u v) (k : Onto b v w) (hb : u.heap.size ≤ b) : Onto r u w :=
  ⟨k.os.trans h.os, k.tape.trans h.tape, k.output.trans h.output, Nat.le_trans h.size k.size, fun j hj hr => (k.block j (Nat.lt_of_lt_of_le hj h.size) (by omega)).trans (h.block j hj hr)⟩
theorem Blk.ontob {w w' : World} {r b : Nat} {zs : List Int} (H : Blk w b zs) (ho : Onto r w w') (hr : r < b) : Blk w' b zs := H.apart (lo := r) (hi := r + 1) (Apart.of_onto ho (Nat.le_refl _) (Nat.lt_succ_self _)) (.inr hr)
theorem rdDrewb {w : World} {r B : Nat} (h : Rd w r B) : Rd w.drew r B := h
theorem ontoDrewb (r : Nat) (w : World) : Onto r w w.drew := ⟨rfl, rfl, rfl, Nat.le_refl _, fun _ _ _ => rfl⟩
set_option maxHeartbeats 3200000 in
theorem drawWrongNines (a : Option Addr) (len cap : Nat) (w : World) (hc : Came w a len cap) (hl : len ≤ 1048576) : Calls Try.prog 25 #[.slice a len cap] w (DrawT2b w) := by
  have HO := hidH (opened_any a len cap w hc hl)
  clear hc
  go_enter Try.func25, Try.ntmps25
  go_wp2_with fail
  refine HO.out.mono ?_
  rintro e w1 ⟨rfl, hR, hB⟩
  have R1 := hidH hR
  have B1 := hidH hB
  have s1 := hB.size
  have hr1 := hR.lt
  clear hR hB HO
  go_wp2_with fail
  refine (tab_any w.heap.size 0 w1 R1.out (by omega)).mono ?_
  rintro e w2 ⟨v, zs, rfl, hrow, hz1, hz14, hR, hO⟩
  obtain ⟨g, gc, rfl, hgc, hgm, hg1, hg2, hblk⟩ := hrow.blk (by omega)
  have G2 := hidH hblk
  have R2 := hidH hR
  have O2 := hidH hO
  unfold maxLen at hgm
  have HN := hidH (sNines_own _ zs w2 _ _ hrow.lies)
  clear hrow hR hO R1 hblk
  go_wp2_with fail
  refine HN.out.mono ?_; rintro e w3 ⟨nv, rfl, hr, hb⟩
  have R3 := hidH (R2.out.onto hb)
  have s23 := hb.size
  have O3 := hidH (O2.out.trans (Onto.of_below hb))
  have G3 := hidH (G2.out.below hb)
  have N3 := hidH hr
  have hnl : (restA 9 zs).length ≤ 14 := by
    unfold restA; split
    · rw [restL_length]; exact hz14
    · simp
  have HNB := hidH (show ∀ x ∈ restA 9 zs, 0 ≤ x ∧ x ≤ 8 from fun x hx => by
    unfold restA at hx
    split at hx
    · obtain ⟨y, _, rfl⟩ := List.mem_map.1 hx
      unfold restN; omega
    · simp at hx)
  have hw2 := G2.out.1
  have s2 := O2.out.size
  clear hb hr HN R2 O2 G2
  generalize restA 9 zs = ns at *
  go_wp2_with fail
  refine (pick_any 3 w.heap.size _ w3 R3.out (by omega)).mono ?_
  rintro e w4 ⟨n, rfl, n0, n1, hR, hO⟩
  have n2 := n1 (by omega)
  have R4 := hidH hR
  have O4 := hidH (O3.out.trans hO)
  have G4 := hidH (G3.out.ontob hO (by omega))
  have N4 := hidH (owns_onto N3.out hO (by omega))
  have s24 := Nat.le_trans s23 hO.size
  clear n1 hR hO R3 O3 G3 N3
  obtain ⟨n, rfl⟩ := Int.eq_ofNat_of_zero_le n0
  go_wp2_with fail
  go_loopw [7] (fun i wr => ∃ (k : Nat) (ys : List Int), k ≤ 2 ∧ i = .int .i64 k ∧ ys.length = zs.length ∧ Rd wr w.heap.size (100 - 2 * k) ∧ Blk wr g ys ∧ wr.ownsRow w2.heap.size 3 1 nv ns.length (ints ns) ∧ w2.heap.size ≤ wr.heap.size ∧ Onto w.heap.size w1 wr) (fun i _ => (intOf i).toNat)
  case atStart => exact ⟨n, zs, by omega, rfl, rfl, R4.out.more (by omega), G4.out, N4.out, s24, O4.out⟩
  case round =>
    obtain ⟨k, ys, hk, rfl, hyl, hR, hG, hN, hs2r, hO⟩ := hrel
    have R5 := hidH hR
    have G5 := hidH hG
    have N5 := hidH hN
    have O5 := hidH hO
    have HYL := hidH hyl
    clear hR hG hN hO R4 O4 G4 N4 hyl
    by_cases hk0 : 0 < k
    · go_wp2_with fail
      refine (pick_any zs.length w.heap.size _ wr R5.out (by omega)).mono ?_
      rintro e w6 ⟨x, rfl, x0, x1, hR, hO⟩
      have x2 := x1 (by omega)
      have R6 := hidH hR
      have O6 := hidH (O5.out.trans hO)
      have G6 := hidH (G5.out.ontob hO (by omega))
      have N6 := hidH (owns_onto N5.out hO (by omega))
      have s26 := Nat.le_trans hs2r hO.size
      clear x1 hR hO R5 O5 G5 N5
      obtain ⟨x, rfl⟩ := Int.eq_ofNat_of_zero_le x0
      have hxz : x < zs.length := by omega
      obtain ⟨y, hy⟩ := get_lt ys x (by rw [HYL.out]; omega)
      obtain ⟨hcy, hfy⟩ := G6.out.2 x y hy
      clear hy
      go_wp2_with fail
      go_region_with ((go_at_call 39; (with_reducible refine (pick_any 20 w.heap.size _ _ (rdDrewb R6.out) (by omega)).mono ?_); rintro e w7 ⟨t, rfl, t0, t1, hR, hO⟩; (have R7 := hidH hR); (have O7 := hidH (O6.out.trans ((ontoDrewb _ w6).trans hO))); (have G7 := hidH (G6.out.ontob ((ontoDrewb _ w6).trans hO) (by omega))); (have N7 := hidH (owns_onto N6.out ((ontoDrewb _ w6).trans hO) (by omega))); (have s27 := Nat.le_trans s26 ((ontoDrewb _ w6).trans hO).size); (have hcy7 : w7.cell? ⟨g, x, none⟩ = some (.int .i64 y) := by rw [hO.cell (p := ⟨g, x, none⟩) (by have := G6.out.1; exact this) (by show g ≠ w.heap.size; omega)]; exact hcy); (have hfy7 : w7.frozen? ⟨g, x, none⟩ = false := by rw [hO.frozen (p := ⟨g, x, none⟩) (by have := G6.out.1; exact this) (by show g ≠ w.heap.size; omega)]; exact hfy); clear t0 t1 hR hO))
      all_goals (
        have K8 := hidH (fun v => G7.out.set x v)
        have R8 := hidH (fun v => R7.out.low ((Onto.setCell g x w7 v).below (B := w.heap.size + 1) (by omega) (by have := R7.out.lt; omega)))
        have O8 := hidH (fun v => O7.out.trans_newb (Onto.setCell g x w7 v) (by omega))
        have N8 := hidH (fun v => owns_onto N7.out (Onto.setCell g x w7 v) (by omega))
        clear R7 O7 G7 N7
        go_wp2_with fail
        go_roundw
        case rel =>
          exact ⟨k - 1, ys.set x _, by omega, by go_num, by rw [List.length_set]; exact HYL.out, (R8.out _).more (by omega), K8.out _, N8.out _, by first | exact s27 | (simp [World.setCell]; exact s27), O8.out _⟩
        case measure => simp [intOf]; omega)
    · obtain rfl : k = 0 := by omega
      clear hk0
      have s5 := O5.out.size
      obtain ⟨w6, rfl⟩ : ∃ w6, w6 = wr := ⟨_, rfl⟩
      go_wp2_with fail
      refine (pick_any 12 w.heap.size _ w6 R5.out (by omega)).mono ?_
      rintro e w7 ⟨x, rfl, x0, x1, hR, hO⟩
      have R7 := hidH hR
      have O7 := hidH (O5.out.trans hO)
      have G7 := hidH (BlkO.of_blk (G5.out.ontob hO (by omega)))
      have N7 := hidH (owns_onto N5.out hO (by omega))
      have s27 := Nat.le_trans hs2r hO.size
      clear x0 x1 hR hO R5 O5 G5 N5
      by_cases e0 : x = 0
      · have b0 : (x == 0) = true := beq_iff_eq.2 e0
        clear e0
        obtain ⟨i0, hi0, hz0, hz1', hz2'⟩ := info_parts infoInt
        go_wp2_with (at_builtin; refine wpList_append_own _ rfl _ _ 25 rfl w2.heap.size 3 i0 (.int .i64 0) 1 8 Try.underlying25 hi0 hz0 hz1' hz2' rfl (by decide) _ _ _ rfl (owns_below N7.out ((Below.refl _ w7).alloc (Nat.le_refl _) _)) ⟨w7.heap.size, 0, none⟩ 1 1 [.int .i64 0] rfl rfl (news_one w7 _ _) (one_one _) (by unfold maxLen; omega) (by omega) (by have := O7.out.size; simp; omega) ?_)
        intro v' w8 hown1 hgrow _
        have hsz7 := O7.out.size
        have hbw := ((Below.refl w2.heap.size w7).alloc (by omega) (.cells #[.int .i64 0] 3)).grown hgrow (by simp; omega) fun g hg => (N7.out.lt g hg).1
        have N8 := hidH (show w8.ownsRow w2.heap.size 3 1 v' (ns ++ [0]).length (ints (ns ++ [0])) by rw [ints_append, List.length_append]; exact hown1)
        have R8 := hidH (R7.out.low (hbw.mono (by omega)))
        have O8 := hidH (show Onto w.heap.size w1 w8 from ⟨hbw.os.trans O7.out.os, hbw.tape.trans O7.out.tape, hbw.output.trans O7.out.output, Nat.le_trans O7.out.size hbw.size, fun k hk hr => (hbw.block k (by omega)).trans (O7.out.block k hk hr)⟩)
        have G8 := hidH (show BlkO w8 g 0 ys from ⟨Nat.lt_of_lt_of_le G7.out.1 hbw.size, fun j z hj => by
          obtain ⟨x, y⟩ := G7.out.2 j z hj
          exact ⟨by rw [World.cell?_of_block (w := w7) (hbw.block g (by omega))]; exact x, by rw [World.frozen?_of_block (w := w7) (hbw.block g (by omega))]; exact y⟩⟩)
        clear hown1 hgrow hbw R7 O7 G7 N7
        have NR := hidH (row_of_owns N8.out).1
        obtain ⟨na, nc, hnf, _⟩ := NR.out
        subst hnf
        go_wp2_with fail
        refine (badTab2_len w.heap.size _ g 0 gc _ ys w8 HYL.out R8.out (by omega) G8.out hgc hgm (by omega) (by omega) (by omega)).mono ?_
        rintro e w9 ⟨u, us, rfl, hl, h61, hR, hO⟩
        have U9 := hidH (hl.mono (Nat.zero_le _) (Nat.le_refl _))
        have N9 := hidH (NR.out.lies.onto2 hO (.inl (by omega)) (.inl (by omega)))
        have O9 := hidH (B1.out.trans ((O8.out.below (Nat.le_refl _) s1).trans (hO.below (Nat.le_refl _) (by omega) (by have := O8.out.size; omega))))
        clear hl hR hO
        obtain ⟨ua, un, uc, huf⟩ : ∃ a2 n2 c2, u = .slice a2 n2 c2 := by
          obtain ⟨a2, c2, e, _⟩ := U9.out
          exact ⟨a2, _, c2, e⟩
        subst huf
        go_wp2_with fail
        go_ret2
        exact ⟨_, _, us, ns ++ [0], rfl, U9.out, by have h := N9.out.top; rw [List.length_append] at h; exact h, h61, by simp; omega, fun x hx => by
          rcases List.mem_append.1 hx with h | h
          · exact HNB.out x h
          · have : x = 0 := by simpa using h
            omega, O9.out⟩
      · have b0 : (x == 0) = false := beq_eq_false_iff_ne.2 e0
        clear e0
        have NR := hidH (row_of_owns N7.out).1
        obtain ⟨na, nc, hnf, _⟩ := NR.out
        subst hnf
        go_wp2_with fail
        refine (badTab2_len w.heap.size _ g 0 gc _ ys w7 HYL.out R7.out (by omega) G7.out hgc hgm (by omega) (by omega) (by omega)).mono ?_
        rintro e w9 ⟨u, us, rfl, hl, h61, hR, hO⟩
        have U9 := hidH (hl.mono (Nat.zero_le _) (Nat.le_refl _))
        have N9 := hidH (NR.out.lies.onto2 hO (.inl (by omega)) (.inl (by omega)))
        have O9 := hidH (B1.out.trans ((O7.out.below (Nat.le_refl _) s1).trans (hO.below (Nat.le_refl _) (by omega) (by have := O7.out.size; omega))))
        clear hl hR hO
        obtain ⟨ua, un, uc, huf⟩ : ∃ a2 n2 c2, u = .slice a2 n2 c2 := by
          obtain ⟨a2, c2, e, _⟩ := U9.out
          exact ⟨a2, _, c2, e⟩
        subst huf
        go_wp2_with fail
        go_ret2
        exact ⟨_, _, us, ns, rfl, U9.out, N9.out.top, h61, by omega, HNB.out, O9.out⟩
end Go.Proofs.Ytojpnlipfbahdaa
