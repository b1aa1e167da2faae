/-
  The draws of tables and degrees for the laws of chapter 4. No conditions but that the bytes that came in can be read.
-/
import Derived.Test.YtlicihjjbojpcaaErrKb
namespace Go.Proofs.Ytlicihjjbojpcaa
set_option maxRecDepth 4000
open Go.RowKit
/-- A drawn slice of numbers and a number. -/
def DrawTd (w : World) (e : Ending) (w' : World) : Prop := ∃ (v : Value) (zs : List Int) (d : Int), e = .returned (.tuple #[v, .int .i64 d]) ∧ Lies w' 0 w'.heap.size v zs ∧ zs.length ≤ 61 ∧ Below w.heap.size w w'
def offNums : List Int := [-1, 7, 6, 0]
def OffD (r B : Nat) (w : World) (e : Ending) (w' : World) : Prop := ∃ d : Int, e = .returned (.int .i64 d) ∧ Rd w' r (B + 3) ∧ Onto r w w'
theorem Onto.trans_new {r b : Nat} {u v w : World} (h : Onto r u v) (k : Onto b v w) (hb : u.heap.size ≤ b) : Onto r u w :=
  ⟨k.os.trans h.os, k.tape.trans h.tape, k.output.trans h.output, Nat.le_trans h.size k.size, fun j hj hr => (k.block j (Nat.lt_of_lt_of_le hj h.size) (by omega)).trans (h.block j hj hr)⟩
theorem Blk.onto {w w' : World} {r b : Nat} {zs : List Int} (H : Blk w b zs) (ho : Onto r w w') (hr : r < b) : Blk w' b zs := H.apart (lo := r) (hi := r + 1) (Apart.of_onto ho (Nat.le_refl _) (Nat.lt_succ_self _)) (.inr hr)
theorem lies_over {w w' : World} {r : Nat} {v : Value} {zs : List Int} (H : Lies w 0 w.heap.size v zs) (ho : Onto r w w') (hd : ∀ b, (∃ off n cap, v = .slice (some ⟨b, off, none⟩) n cap) → b ≠ r) : Lies w' 0 w'.heap.size v zs := by
  obtain ⟨a, cap, h1, h2, h3, h4, h5⟩ := H
  refine ⟨a, cap, h1, h2, h3, h4, fun j z hj => ?_⟩
  obtain ⟨b, off, e, x, y, hc⟩ := h5 j z hj
  have hcb := cell_blk _ _ _ hc
  have hne : b ≠ r := hd b ⟨off, _, cap, by rw [h1, e]⟩
  exact ⟨b, off, e, Nat.zero_le _, Nat.lt_of_lt_of_le hcb ho.size, by rw [ho.cell (p := ⟨b, off + j, none⟩) hcb hne]; exact hc⟩
set_option maxHeartbeats 800000 in
theorem off4_any (r B : Nat) (d : Int) (w : World) (h : Rd w r B) (hB : B ≤ 800000) : Calls Try.prog 37 #[.pointer (some ⟨r, 0, none⟩), .int .i64 d] w (OffD r B w) := by
  have R0 := hidH h
  have hr0 := h.lt
  have O0 := hidH (Onto.refl r w)
  clear h
  go_enter Try.func37, Try.ntmps37
  go_wp2_with fail
  refine (pick_any 12 r _ w R0.out (by omega)).mono ?_
  rintro e w1 ⟨x, rfl, x0, x1, hR, hO⟩
  have R1 := hidH hR
  have O1 := hidH (O0.out.trans hO)
  clear x0 x1 hR hO
  by_cases e1 : x = 0
  · have b1 : (x == 0) = true := beq_iff_eq.2 e1
    clear e1
    go_wp2_with fail
    have hN := num_any w1.heap.size 0 offNums r _ (w1.alloc (.cells (intC offNums) 3)) (R1.out.onto ((Below.refl _ _).alloc (Nat.le_refl _) _)) (by omega) (by decide) (by decide) (ints_new _ _ _ _ R1.out.lt)
    refine hN.mono ?_
    rintro e w2 ⟨n, hz, rfl, hR, hO⟩
    have R2 := hidH hR
    have O2 := hidH (O1.out.trans (((Onto.refl _ _).alloc (.cells (intC offNums) 3)).trans hO))
    clear hN hz hR hO
    go_wp2_with fail
    go_ret
    exact ⟨_, rfl, R2.out.more (by omega), O2.out⟩
  · have b1 : (x == 0) = false := beq_eq_false_iff_ne.2 e1
    clear e1
    by_cases e2 : x = 1
    · have b2 : (x == 1) = true := beq_iff_eq.2 e2
      clear e2
      go_wp2_with fail
      go_ret
      exact ⟨_, rfl, R1.out.more (by omega), O1.out⟩
    · have b2 : (x == 1) = false := beq_eq_false_iff_ne.2 e2
      clear e2
      go_wp2_with fail
      go_ret
      exact ⟨_, rfl, R1.out.more (by omega), O1.out⟩
set_option maxHeartbeats 1600000 in
theorem drawCleanTable (a : Option Addr) (len cap : Nat) (w : World) (hc : Came w a len cap) (hl : len ≤ 1048576) : Calls Try.prog 17 #[.slice a len cap] w (DrawTd w) := by
  have HO := hidH (opened_any a len cap w hc hl)
  clear hc
  go_enter Try.func17, Try.ntmps17
  go_wp2_with fail
  refine HO.out.mono ?_
  rintro e w1 ⟨rfl, hR, hB⟩
  have R1 := hidH hR
  have B1 := hidH hB
  have s1 := hB.size
  have hr1 := hR.lt
  clear hR hB HO
  go_wp2_with fail
  refine (tab4_any w.heap.size 0 w1 R1.out (by omega)).mono ?_
  rintro e w2 ⟨g, gc, d, zs, rfl, hG, hg1, hgc, hgm, hd6, hz1, hz2, hR, hO⟩
  have G2 := hidH hG
  have R2 := hidH hR
  have O2 := hidH hO
  clear hG hR hO R1
  go_wp2_with fail
  refine (pick_any 3 w.heap.size _ w2 R2.out (by omega)).mono ?_
  rintro e w3 ⟨x, rfl, x0, x1, hR, hO⟩
  have x2 := x1 (by omega)
  have R3 := hidH hR
  have O3 := hidH (O2.out.trans hO)
  have G3 := hidH (G2.out.onto hO (by omega))
  clear x1 hR hO R2 O2 G2
  by_cases e0 : x = 0
  · have b0 : (x == 0) = true := beq_iff_eq.2 e0
    clear e0
    go_wp2_with fail
    refine (pick_any zs.length w.heap.size _ w3 R3.out (by omega)).mono ?_
    rintro e w4 ⟨y, rfl, y0, y1, hR, hO⟩
    have y2 := y1 (by omega)
    have R4 := hidH hR
    have O4 := hidH (O3.out.trans hO)
    have G4 := hidH (G3.out.onto hO (by omega))
    clear y1 hR hO R3 O3 G3
    obtain ⟨k2, rfl⟩ := Int.eq_ofNat_of_zero_le y0
    go_wp2_with fail
    refine (pick_any 50 w.heap.size _ w4 R4.out (by omega)).mono ?_
    rintro e w5 ⟨z, rfl, z0, z1, hR, hO⟩
    have z2 := z1 (by omega)
    have R5 := hidH hR
    have O5 := hidH (O4.out.trans hO)
    have G5 := hidH (G4.out.onto hO (by omega))
    clear z1 hR hO R4 O4 G4
    obtain ⟨yy, hy⟩ := get_lt zs k2 (by omega)
    obtain ⟨hcy, hfy⟩ := G5.out.2 k2 yy hy
    have K6 := hidH (BlkO.of_blk (G5.out.set k2 z))
    have R6 := hidH (R5.out.low ((Onto.setCell g k2 w5 (.int .i64 z)).below (B := w.heap.size + 1) (by omega) (by have := R5.out.lt; omega)))
    have O6 := hidH (O5.out.trans_new (Onto.setCell g k2 w5 (.int .i64 z)) (by omega))
    have HSL := hidH (show (zs.set k2 z).length = zs.length by rw [List.length_set])
    clear hy R5 O5 G5
    go_wp2_with fail
    generalize w5.setCell ⟨g, k2, none⟩ (.int .i64 z) = w6 at *
    generalize zs.set k2 z = ys at *
    refine (badTab2_len w.heap.size _ g 0 gc _ ys w6 HSL.out R6.out (by omega) K6.out hgc hgm (by omega) (by omega) (by omega)).mono ?_
    rintro e w20 ⟨u, us, rfl, hl, h61, hR, hO⟩
    have U20 := hidH hl
    have R20 := hidH hR
    have O20 := hidH (B1.out.trans ((O6.out.below (Nat.le_refl _) s1).trans (hO.below (Nat.le_refl _) (by omega) (by have := O6.out.size; omega))))
    clear hl hR hO
    obtain ⟨ua, un, uc, huf⟩ : ∃ a2 n2 c2, u = .slice a2 n2 c2 := by
      obtain ⟨a2, c2, e, _⟩ := U20.out
      exact ⟨a2, _, c2, e⟩
    subst huf
    go_wp2_with fail
    refine (off4_any w.heap.size _ _ w20 R20.out (by omega)).mono ?_
    rintro e w21 ⟨q, rfl, hR, hO⟩
    have U21 := hidH (U20.out.apart (lo := w.heap.size) (hi := w.heap.size + 1) (Apart.of_onto hO (Nat.le_refl _) (Nat.lt_succ_self _)) (.inr (Nat.le_refl _)))
    have hsz := O20.out.size
    have O21 := hidH (O20.out.trans (hO.below (Nat.le_refl _) hsz))
    have hsz2 := hO.size
    clear hR hO
    go_wp2_with fail
    go_ret2
    exact ⟨_, us, q, rfl, U21.out.mono (Nat.zero_le _) hsz2, h61, O21.out⟩
  · have b0 : (x == 0) = false := beq_eq_false_iff_ne.2 e0
    clear e0
    go_wp2_with fail
    refine (badTab2_len w.heap.size _ g 0 gc _ zs w3 rfl R3.out (by omega) (BlkO.of_blk G3.out) hgc hgm (by omega) (by omega) (by omega)).mono ?_
    rintro e w20 ⟨u, us, rfl, hl, h61, hR, hO⟩
    have U20 := hidH hl
    have R20 := hidH hR
    have O20 := hidH (B1.out.trans ((O3.out.below (Nat.le_refl _) s1).trans (hO.below (Nat.le_refl _) (by omega) (by have := O3.out.size; omega))))
    clear hl hR hO
    obtain ⟨ua, un, uc, huf⟩ : ∃ a2 n2 c2, u = .slice a2 n2 c2 := by
      obtain ⟨a2, c2, e, _⟩ := U20.out
      exact ⟨a2, _, c2, e⟩
    subst huf
    go_wp2_with fail
    refine (off4_any w.heap.size _ _ w20 R20.out (by omega)).mono ?_
    rintro e w21 ⟨q, rfl, hR, hO⟩
    have U21 := hidH (U20.out.apart (lo := w.heap.size) (hi := w.heap.size + 1) (Apart.of_onto hO (Nat.le_refl _) (Nat.lt_succ_self _)) (.inr (Nat.le_refl _)))
    have hsz := O20.out.size
    have O21 := hidH (O20.out.trans (hO.below (Nat.le_refl _) hsz))
    have hsz2 := hO.size
    clear hR hO
    go_wp2_with fail
    go_ret2
    exact ⟨_, us, q, rfl, U21.out.mono (Nat.zero_le _) hsz2, h61, O21.out⟩
end Go.Proofs.Ytlicihjjbojpcaa
