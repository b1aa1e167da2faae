/-
  The draws of small tables, places and degrees. No conditions but that the bytes that came in can be read.
-/
import Derived.Test.YtmmcdmnmhpbehaaPlanF
import Derived.Test.YtmmcdmnmhpbehaaErrKb
import Derived.Test.YtmmcdmnmhpbehaaKitP
namespace Go.Proofs.Ytmmcdmnmhpbehaa
set_option maxRecDepth 4000
open Go.RowKit
theorem Lies.onto5 {w w' : World} {r lo : Nat} {v : Value} {zs : List Int} (H : Lies w lo w.heap.size v zs) (ho : Onto r w w') (hr : r + 1 ≤ lo) : Lies w' lo w'.heap.size v zs :=
  (H.apart (lo := r) (hi := r + 1) (Apart.of_onto ho (Nat.le_refl _) (Nat.lt_succ_self _)) (.inr hr)).mono (Nat.le_refl _) ho.size
theorem Lies.some5 {w : World} {lo hi : Nat} {v : Value} {zs : List Int} (h : Lies w lo hi v zs) : ∃ a cap, v = .slice a zs.length cap := by
  obtain ⟨a, cap, e, _⟩ := h
  exact ⟨a, cap, e⟩
theorem Blk.onto5 {w w' : World} {r b : Nat} {zs : List Int} (H : Blk w b zs) (ho : Onto r w w') (hr : r < b) : Blk w' b zs := H.apart (lo := r) (hi := r + 1) (Apart.of_onto ho (Nat.le_refl _) (Nat.lt_succ_self _)) (.inr hr)
theorem onto2_new {r b : Nat} {u v w : World} (h : Onto r u v) (k : Onto2 r b v w) (hb : u.heap.size ≤ b) : Onto r u w :=
  ⟨k.os.trans h.os, k.tape.trans h.tape, k.output.trans h.output, Nat.le_trans h.size k.size, fun j hj hr => (k.block j (Nat.lt_of_lt_of_le hj h.size) hr (by omega)).trans (h.block j hj hr)⟩
theorem onto_new5 {r b : Nat} {u v w : World} (h : Onto r u v) (k : Onto b v w) (hb : u.heap.size ≤ b) : Onto r u w :=
  ⟨k.os.trans h.os, k.tape.trans h.tape, k.output.trans h.output, Nat.le_trans h.size k.size, fun j hj hr => (k.block j (Nat.lt_of_lt_of_le hj h.size) (by omega)).trans (h.block j hj hr)⟩
def deg5 : List Int := [-1, 7, 6]
def big5 : List Int := [1500, 1501, -1500, -1501]
/-- A drawn row, sometimes no small table, and a degree. -/
def SomeTd (r B : Nat) (w : World) (e : Ending) (w' : World) : Prop := ∃ (v : Value) (zs : List Int) (d : Int), e = .returned (.tuple #[v, .int .i64 d]) ∧ Lies w' (r + 1) w'.heap.size v zs ∧ zs.length ≤ 61 ∧ -1 ≤ d ∧ d ≤ 7 ∧ Rd w' r (B + 60) ∧ Onto r w w'
set_option maxHeartbeats 3200000 in
theorem some5_any (r B : Nat) (w : World) (h : Rd w r B) (hB : B ≤ 700000) : Calls Try.prog 27 #[.pointer (some ⟨r, 0, none⟩)] w (SomeTd r B w) := by
  have hr := h.lt
  have HR := hidH h
  clear h
  go_enter Try.func27, Try.ntmps27
  go_wp2_with fail
  refine (tab5_any r B w HR.out hB).mono ?_
  rintro e w1 ⟨v, zs, rfl, hrow, hz1, hz30, hR, hO⟩
  obtain ⟨g, gc, rfl, hgc, hgm, hg1, hg2, hblk⟩ := hrow.blk (by omega)
  have K1 := hidH hblk
  have R1 := hidH hR
  have O1 := hidH hO
  unfold maxLen at hgm
  clear hrow hR hO hblk HR
  go_wp2_with fail
  refine (pick_any 4 r _ w1 R1.out (by omega)).mono ?_
  rintro e w2 ⟨d, rfl, d0, d1, hR, hO⟩
  have d2 := d1 (by omega)
  have R2 := hidH hR
  have O2 := hidH (O1.out.trans hO)
  have K2 := hidH (K1.out.onto5 hO (by omega))
  clear d1 hR hO R1 O1 K1
  go_wp2_with fail
  refine (pick_any 16 r _ w2 R2.out (by omega)).mono ?_
  rintro e w3 ⟨e1, rfl, e10, e11, hR, hO⟩
  have e12 := e11 (by omega)
  have R3 := hidH hR
  have O3 := hidH (O2.out.trans hO)
  have K3 := hidH (K2.out.onto5 hO (by omega))
  clear e11 hR hO R2 O2 K2
  by_cases e_e1 : e1 = 0
  · have b_e1 : (e1 == 0) = true := beq_iff_eq.2 e_e1
    clear e_e1
    go_wp2_with fail
    have hN := num_any w3.heap.size 0 deg5 r _ (w3.alloc (.cells (intC deg5) 3)) (R3.out.onto ((Below.refl _ _).alloc (Nat.le_refl _) _)) (by omega) (by first | decide | exact Nat.succ_pos _) (by first | decide | exact (show 3 ≤ 1000 from by decide)) (ints_new _ _ _ _ R3.out.lt)
    refine hN.mono ?_
    rintro e w4 ⟨dd, hz, rfl, hR, hO⟩
    have R4 := hidH hR
    have O4 := hidH (O3.out.trans (((Onto.refl _ _).alloc (.cells (intC deg5) 3)).trans hO))
    have K4 := hidH (K3.out.onto5 (((Onto.refl _ _).alloc (.cells (intC deg5) 3)).trans hO) (by omega))
    have hdb : -1 ≤ dd ∧ dd ≤ 7 := by
      have : ∀ y ∈ deg5, -1 ≤ y ∧ y ≤ 7 := by decide
      exact this dd hz
    clear hN hz hR hO R3 O3 K3
    go_wp2_with fail
    refine (pick_any 24 r _ w4 R4.out (by omega)).mono ?_
    rintro e w5 ⟨e2, rfl, e20, e21, hR, hO⟩
    have e22 := e21 (by omega)
    have R5 := hidH hR
    have O5 := hidH (O4.out.trans hO)
    have K5 := hidH (K4.out.onto5 hO (by omega))
    clear e21 hR hO R4 O4 K4
    by_cases e_e2 : e2 = 0
    · have b_e2 : (e2 == 0) = true := beq_iff_eq.2 e_e2
      clear e_e2
      go_wp2_with fail
      refine (pick_any zs.length r _ w5 R5.out (by omega)).mono ?_
      rintro e w6 ⟨f, rfl, f0, f1, hR, hO⟩
      have f2 := f1 (by omega)
      have R6 := hidH hR
      have O6 := hidH (O5.out.trans hO)
      have K6 := hidH (K5.out.onto5 hO (by omega))
      clear f1 hR hO R5 O5 K5
      obtain ⟨f, rfl⟩ := Int.eq_ofNat_of_zero_le f0
      go_wp2_with fail
      have hN := num_any w6.heap.size 0 big5 r _ (w6.alloc (.cells (intC big5) 3)) (R6.out.onto ((Below.refl _ _).alloc (Nat.le_refl _) _)) (by omega) (by first | decide | exact Nat.succ_pos _) (by first | decide | exact (show 3 ≤ 1000 from by decide)) (ints_new _ _ _ _ R6.out.lt)
      refine hN.mono ?_
      rintro e w7 ⟨z, hz, rfl, hR, hO⟩
      have R7 := hidH hR
      have O7 := hidH (O6.out.trans (((Onto.refl _ _).alloc (.cells (intC big5) 3)).trans hO))
      have K7 := hidH (K6.out.onto5 (((Onto.refl _ _).alloc (.cells (intC big5) 3)).trans hO) (by omega))
      clear hN hz hR hO R6 O6 K6
      have hfl : f < zs.length := by omega
      obtain ⟨y, hy⟩ := get_lt zs f hfl
      obtain ⟨hcy, hfy⟩ := K7.out.2 f y hy
      have K8 := hidH (K7.out.set f z)
      have R8 := hidH (R7.out.low ((Onto.setCell g f w7 (.int .i64 z)).below (B := r + 1) (by omega) (by have := R7.out.lt; omega)))
      have O8 := hidH (onto_new5 O7.out (Onto.setCell g f w7 (.int .i64 z)) (by omega))
      have HSL := hidH (show (zs.set f z).length = zs.length by rw [List.length_set])
      clear hy R7 O7 K7
      go_wp2_with fail
      generalize w7.setCell ⟨g, f, none⟩ (.int .i64 z) = w8 at *
      generalize zs.set f z = ys at *
      refine (badTab2_len r _ g 0 gc zs.length ys w8 HSL.out R8.out (by omega) (BlkO.of_blk K8.out) hgc (by omega) (by omega) (by omega) (by omega)).mono ?_
      rintro e w20 ⟨u, us, rfl, hlu, h61, hR, hO⟩
      have U20 := hidH hlu
      have R20 := hidH hR
      have O20 := hidH (onto2_new O8.out hO (by omega))
      clear hlu hR hO
      go_wp2_with fail
      go_ret2
      exact ⟨_, us, _, rfl, U20.out, h61, hdb.1, hdb.2, R20.out.more (by omega), O20.out⟩
    · have b_e2 : (e2 == 0) = false := beq_eq_false_iff_ne.2 e_e2
      clear e_e2
      go_wp2_with fail
      refine (badTab2_len r _ g 0 gc zs.length zs w5 rfl R5.out (by omega) (BlkO.of_blk K5.out) hgc (by omega) (by omega) (by omega) (by omega)).mono ?_
      rintro e w20 ⟨u, us, rfl, hlu, h61, hR, hO⟩
      have U20 := hidH hlu
      have R20 := hidH hR
      have O20 := hidH (onto2_new O5.out hO (by omega))
      clear hlu hR hO
      go_wp2_with fail
      go_ret2
      exact ⟨_, us, _, rfl, U20.out, h61, hdb.1, hdb.2, R20.out.more (by omega), O20.out⟩
  · have b_e1 : (e1 == 0) = false := beq_eq_false_iff_ne.2 e_e1
    clear e_e1
    go_wp2_with fail
    refine (pick_any 24 r _ w3 R3.out (by omega)).mono ?_
    rintro e w4 ⟨e2, rfl, e20, e21, hR, hO⟩
    have e22 := e21 (by omega)
    have R4 := hidH hR
    have O4 := hidH (O3.out.trans hO)
    have K4 := hidH (K3.out.onto5 hO (by omega))
    clear e21 hR hO R3 O3 K3
    by_cases e_e2 : e2 = 0
    · have b_e2 : (e2 == 0) = true := beq_iff_eq.2 e_e2
      clear e_e2
      go_wp2_with fail
      refine (pick_any zs.length r _ w4 R4.out (by omega)).mono ?_
      rintro e w5 ⟨f, rfl, f0, f1, hR, hO⟩
      have f2 := f1 (by omega)
      have R5 := hidH hR
      have O5 := hidH (O4.out.trans hO)
      have K5 := hidH (K4.out.onto5 hO (by omega))
      clear f1 hR hO R4 O4 K4
      obtain ⟨f, rfl⟩ := Int.eq_ofNat_of_zero_le f0
      go_wp2_with fail
      have hN := num_any w5.heap.size 0 big5 r _ (w5.alloc (.cells (intC big5) 3)) (R5.out.onto ((Below.refl _ _).alloc (Nat.le_refl _) _)) (by omega) (by first | decide | exact Nat.succ_pos _) (by first | decide | exact (show 3 ≤ 1000 from by decide)) (ints_new _ _ _ _ R5.out.lt)
      refine hN.mono ?_
      rintro e w6 ⟨z, hz, rfl, hR, hO⟩
      have R6 := hidH hR
      have O6 := hidH (O5.out.trans (((Onto.refl _ _).alloc (.cells (intC big5) 3)).trans hO))
      have K6 := hidH (K5.out.onto5 (((Onto.refl _ _).alloc (.cells (intC big5) 3)).trans hO) (by omega))
      clear hN hz hR hO R5 O5 K5
      have hfl : f < zs.length := by omega
      obtain ⟨y, hy⟩ := get_lt zs f hfl
      obtain ⟨hcy, hfy⟩ := K6.out.2 f y hy
      have K7 := hidH (K6.out.set f z)
      have R7 := hidH (R6.out.low ((Onto.setCell g f w6 (.int .i64 z)).below (B := r + 1) (by omega) (by have := R6.out.lt; omega)))
      have O7 := hidH (onto_new5 O6.out (Onto.setCell g f w6 (.int .i64 z)) (by omega))
      have HSL := hidH (show (zs.set f z).length = zs.length by rw [List.length_set])
      clear hy R6 O6 K6
      go_wp2_with fail
      generalize w6.setCell ⟨g, f, none⟩ (.int .i64 z) = w7 at *
      generalize zs.set f z = ys at *
      refine (badTab2_len r _ g 0 gc zs.length ys w7 HSL.out R7.out (by omega) (BlkO.of_blk K7.out) hgc (by omega) (by omega) (by omega) (by omega)).mono ?_
      rintro e w20 ⟨u, us, rfl, hlu, h61, hR, hO⟩
      have U20 := hidH hlu
      have R20 := hidH hR
      have O20 := hidH (onto2_new O7.out hO (by omega))
      clear hlu hR hO
      go_wp2_with fail
      go_ret2
      exact ⟨_, us, _, rfl, U20.out, h61, by omega, by omega, R20.out.more (by omega), O20.out⟩
    · have b_e2 : (e2 == 0) = false := beq_eq_false_iff_ne.2 e_e2
      clear e_e2
      go_wp2_with fail
      refine (badTab2_len r _ g 0 gc zs.length zs w4 rfl R4.out (by omega) (BlkO.of_blk K4.out) hgc (by omega) (by omega) (by omega) (by omega)).mono ?_
      rintro e w20 ⟨u, us, rfl, hlu, h61, hR, hO⟩
      have U20 := hidH hlu
      have R20 := hidH hR
      have O20 := hidH (onto2_new O4.out hO (by omega))
      clear hlu hR hO
      go_wp2_with fail
      go_ret2
      exact ⟨_, us, _, rfl, U20.out, h61, by omega, by omega, R20.out.more (by omega), O20.out⟩
/-- A drawn slice of numbers, a place and a degree. -/
def DrawTfd (w : World) (e : Ending) (w' : World) : Prop := ∃ (v : Value) (zs : List Int) (f d : Int), e = .returned (.tuple #[v, .int .i64 f, .int .i64 d]) ∧ Lies w' (w.heap.size + 1) w'.heap.size v zs ∧ zs.length ≤ 61 ∧ -1 ≤ d ∧ d ≤ 7 ∧ Below w.heap.size w w'
end Go.Proofs.Ytmmcdmnmhpbehaa
