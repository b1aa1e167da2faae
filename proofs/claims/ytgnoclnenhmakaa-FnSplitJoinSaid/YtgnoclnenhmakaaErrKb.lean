/-
  The draws of tables for the laws of chapter 4. No conditions but that the bytes that came in can be read.
-/
import Derived.Test.YtgnoclnenhmakaaKitT
import Derived.Test.YtgnoclnenhmakaaErrB
import Derived.Test.YtgnoclnenhmakaaErrKa
import Derived.Test.YtgnoclnenhmakaaPolyD
namespace Go.Proofs.Ytgnoclnenhmakaa
set_option maxRecDepth 4000
open Go.RowKit
/-- All blocks but r and b stand, and new blocks may have come. -/
structure Onto2 (r b : Nat) (w w' : World) : Prop where
  os : w'.os = w.os
  tape : w'.tape = w.tape
  output : w'.output = w.output
  size : w.heap.size ≤ w'.heap.size
  block : ∀ k, k < w.heap.size → k ≠ r → k ≠ b → w'.heap[k]? = w.heap[k]?
theorem Onto2.of_onto {r b : Nat} {w w' : World} (h : Onto r w w') : Onto2 r b w w' := ⟨h.os, h.tape, h.output, h.size, fun k hk hr _ => h.block k hk hr⟩
theorem Onto2.trans {r b : Nat} {u v w : World} (h : Onto2 r b u v) (k : Onto2 r b v w) : Onto2 r b u w :=
  ⟨k.os.trans h.os, k.tape.trans h.tape, k.output.trans h.output, Nat.le_trans h.size k.size, fun j hj hr hb => (k.block j (Nat.lt_of_lt_of_le hj h.size) hr hb).trans (h.block j hj hr hb)⟩
theorem Onto2.setCell (r b i : Nat) (w : World) (v : Value) : Onto2 r b w (w.setCell ⟨b, i, none⟩ v) := by
  have h := Onto.setCell b i w v
  exact ⟨h.os, h.tape, h.output, h.size, fun k hk _ hb => h.block k hk hb⟩
theorem Onto2.of_below {r b : Nat} {w w' : World} (h : Below w.heap.size w w') : Onto2 r b w w' := .of_onto (Onto.of_below h)
theorem Onto2.below {r b B : Nat} {w w' : World} (h : Onto2 r b w w') (hr : B ≤ r) (hb : B ≤ b) (hB : B ≤ w.heap.size) : Below B w w' := ⟨h.os, h.tape, h.output, h.size, fun k hk => h.block k (by omega) (by omega) (by omega)⟩
theorem Lies.onto2 {w w' : World} {r b lo hi : Nat} {v : Value} {zs : List Int} (H : Lies w lo hi v zs) (ho : Onto2 r b w w') (hr : r < lo ∨ hi ≤ r) (hb : b < lo ∨ hi ≤ b) : Lies w' lo hi v zs := by
  obtain ⟨a, cap, h1, h2, h3, h4, h5⟩ := H
  refine ⟨a, cap, h1, h2, h3, h4, fun j z hj => ?_⟩
  obtain ⟨c, off, e, x, y, hc⟩ := h5 j z hj
  have hcb := cell_blk _ _ _ hc
  exact ⟨c, off, e, x, y, by rw [World.cell?_of_block (w := w) (ho.block c hcb (by omega) (by omega))]; exact hc⟩
/-- Numbers that can be written lie in block b from off on. -/
def BlkO (w : World) (b off : Nat) (zs : List Int) : Prop := b < w.heap.size ∧ ∀ (j : Nat) z, zs[j]? = some z → w.cell? ⟨b, off + j, none⟩ = some (.int .i64 z) ∧ w.frozen? ⟨b, off + j, none⟩ = false
theorem BlkO.of_blk {w : World} {b : Nat} {zs : List Int} (H : Blk w b zs) : BlkO w b 0 zs := ⟨H.1, fun j z hj => by rw [Nat.zero_add]; exact H.2 j z hj⟩
theorem BlkO.tail {w : World} {b off : Nat} {zs : List Int} (H : BlkO w b off zs) : BlkO w b (off + 1) zs.tail := ⟨H.1, fun j z hj => by
  rw [List.getElem?_tail] at hj
  have := H.2 (j + 1) z hj
  rw [show off + 1 + j = off + (j + 1) by omega]; exact this⟩
theorem BlkO.apart {w w' : World} {lo hi b off : Nat} {zs : List Int} (H : BlkO w b off zs) (hA : Apart lo hi w w') (hd : b < lo ∨ hi ≤ b) : BlkO w' b off zs := by
  have hk := hA.block b H.1 (by omega)
  refine ⟨Nat.lt_of_lt_of_le H.1 hA.size, fun j z hj => ?_⟩
  obtain ⟨x, y⟩ := H.2 j z hj
  exact ⟨by rw [World.cell?_of_block (w := w) hk]; exact x, by rw [World.frozen?_of_block (w := w) hk]; exact y⟩
theorem BlkO.below {w w' : World} {b off : Nat} {zs : List Int} (H : BlkO w b off zs) (hb : Below w.heap.size w w') : BlkO w' b off zs := H.apart (lo := 0) (hi := 0) (Apart.of_below hb) (Or.inr (Nat.zero_le _))
theorem BlkO.set {w : World} {b off : Nat} {zs : List Int} (H : BlkO w b off zs) (k : Nat) (x : Int) : BlkO (w.setCell ⟨b, off + k, none⟩ (.int .i64 x)) b off (zs.set k x) := by
  refine ⟨by simpa [World.setCell] using H.1, fun j z hj => ?_⟩
  rw [List.getElem?_set] at hj
  by_cases e : k = j
  · subst e
    rw [if_pos rfl] at hj
    by_cases hk : k < zs.length
    · rw [if_pos hk] at hj
      injection hj with hj
      subst hj
      obtain ⟨hc, hf⟩ := H.2 k _ (List.getElem?_eq_getElem hk)
      exact ⟨World.cell?_setCell_same _ _ _ hc, by simpa using hf⟩
    · rw [if_neg hk] at hj; simp at hj
  · rw [if_neg e] at hj
    obtain ⟨hc, hf⟩ := H.2 j z hj
    exact ⟨by rw [World.cell?_setCell_other _ _ _ _ (by intro h; injection h; omega)]; exact hc, by simpa using hf⟩
theorem BlkO.lies {w : World} {b off : Nat} {zs : List Int} (H : BlkO w b off zs) {cap n lo : Nat} (hl : lo ≤ b) (hn : n = zs.length) (hc : zs.length ≤ cap) (hm : cap ≤ maxLen) : Lies w lo w.heap.size (.slice (some ⟨b, off, none⟩) n cap) zs :=
  lies_of hn hc hm hl H.1 fun j z hj => (H.2 j z hj).1
/-- A drawn row that is sometimes no table. -/
def BadTab2 (r B b : Nat) (w : World) (e : Ending) (w' : World) : Prop := ∃ (v : Value) (zs : List Int), e = .returned v ∧ Lies w' (r + 1) w'.heap.size v zs ∧ zs.length ≤ 61 ∧ Rd w' r (B + 3) ∧ Onto2 r b w w'
set_option maxHeartbeats 1600000 in
theorem badTab2_any (r B g off cap : Nat) (zs : List Int) (w : World) (h : Rd w r B) (hB : B ≤ 900000) (hblk : BlkO w g off zs) (hgc : zs.length ≤ cap) (hcm : cap ≤ 9223372036854775807) (h1 : 1 ≤ zs.length) (h61 : zs.length ≤ 61) (hgr : r < g) : Calls Try.prog 65 #[.pointer (some ⟨r, 0, none⟩), .slice (some ⟨g, off, none⟩) zs.length cap] w (BadTab2 r B g w) := by
  have hgw := hblk.1
  have K0 := hidH hblk
  have HR := hidH h
  clear h hblk
  go_enter Try.func65, Try.ntmps65
  go_wp2_with fail
  refine (pick_any zs.length r B w HR.out (by omega)).mono ?_
  rintro e w1 ⟨x, rfl, x0, x1, hR1, hO1⟩
  have hx := x1 (by omega)
  have R1 := hidH hR1
  have O1 := hidH hO1
  have s1 := hO1.size
  have K1 := hidH (K0.out.apart (lo := r) (hi := r + 1) (Apart.of_onto hO1 (Nat.le_refl _) (Nat.lt_succ_self _)) (by omega))
  clear x1 hR1 hO1 K0 HR
  obtain ⟨k, rfl⟩ := Int.eq_ofNat_of_zero_le x0
  go_wp2_with fail
  refine (pick_any 40 r (B + 1) w1 R1.out (by omega)).mono ?_
  rintro e w2 ⟨t, rfl, t0, t1, hR2, hO2⟩
  have R2 := hidH hR2
  have O2 := hidH (O1.out.trans hO2)
  have s2 := O2.out.size
  have K2 := hidH (K1.out.apart (lo := r) (hi := r + 1) (Apart.of_onto hO2 (Nat.le_refl _) (Nat.lt_succ_self _)) (by omega))
  clear t1 hR2 hO2 K1 R1 O1
  by_cases e0 : t = 0
  · subst e0
    go_wp2_with fail
    have hN := num_any w2.heap.size 0 tabNums r (B + 1 + 1) (w2.alloc (.cells (intC tabNums) 3)) (R2.out.onto ((Below.refl _ _).alloc (Nat.le_refl _) _)) (by omega) (by decide) (by decide) (ints_new _ _ _ _ R2.out.lt)
    refine hN.mono ?_
    rintro e w3 ⟨z, hz, rfl, hR3, hO3⟩
    have R3 := hidH hR3
    have O3 := hidH (O2.out.trans (((Onto.refl r _).alloc (.cells (intC tabNums) 3)).trans hO3))
    have K3 := hidH ((K2.out.below ((Below.refl _ _).alloc (Nat.le_refl _) (.cells (intC tabNums) 3))).apart (lo := r) (hi := r + 1) (Apart.of_onto hO3 (Nat.le_refl _) (Nat.lt_succ_self _)) (by omega))
    clear hN hz hR3 hO3 K2 R2 O2
    have hkl : k < zs.length := by omega
    obtain ⟨y, hy⟩ := get_lt zs k hkl
    obtain ⟨hcy, hfy⟩ := K3.out.2 k y hy
    have K4 := hidH (K3.out.set k z)
    clear hy
    go_wp2_with fail
    go_ret
    refine ⟨_, zs.set k z, rfl, K4.out.lies hgr (by rw [List.length_set]) (by rw [List.length_set]; exact hgc) (by unfold maxLen; omega), by rw [List.length_set]; omega, ?_, ?_⟩
    · exact R3.out.low ((Below.refl (r + 1) w3).setCell (p := ⟨g, off + k, none⟩) (by show r + 1 ≤ g; omega) _)
    · exact (Onto2.of_onto O3.out).trans (Onto2.setCell r g (off + k) w3 _)
  · have c0 : (t == 0) = false := beq_eq_false_iff_ne.2 e0
    by_cases e1 : t = 1
    · subst e1
      clear e0
      go_wp2_with fail
      go_ret
      exact ⟨_, [], rfl, (Row.nil _ _ _ _ _ (by unfold maxLen; omega) (fun h => by cases h)).lies, by simp, R2.out.more (by omega), .of_onto O2.out⟩
    · have c1 : (t == 1) = false := beq_eq_false_iff_ne.2 e1
      by_cases e2 : t = 2
      · subst e2
        clear e0 e1
        go_wp2_with fail
        have hN := num_any w2.heap.size 0 tabLens r (B + 1 + 1) (w2.alloc (.cells (intC tabLens) 3)) (R2.out.onto ((Below.refl _ _).alloc (Nat.le_refl _) _)) (by omega) (by decide) (by decide) (ints_new _ _ _ _ R2.out.lt)
        refine hN.mono ?_
        rintro e w3 ⟨z, hz, rfl, hR3, hO3⟩
        have R3 := hidH hR3
        have O3 := hidH (O2.out.trans (((Onto.refl r _).alloc (.cells (intC tabLens) 3)).trans hO3))
        have hz2 : 1 ≤ z ∧ z ≤ 61 := by
          have h : tabLens.all (fun z => decide (1 ≤ z ∧ z ≤ 61)) = true := by decide
          exact of_decide_eq_true (List.all_eq_true.1 h z hz)
        obtain ⟨m, rfl⟩ := Int.eq_ofNat_of_zero_le (show 0 ≤ z by omega)
        have hmk := run_make_row' (P := Try.prog) 28 3 (.int .i64 0) 8 Try.underlying28 infoInt rfl .i64 .i64 m (by omega) (by omega) w3
        have HM := hidH (Blk.made w3 3 m)
        have s3 := O3.out.size
        clear hN hz hR3 hO3 K2 R2 O2
        go_wp2_with fail
        go_ret
        refine ⟨_, List.replicate m 0, rfl, (HM.out.row (lo := r + 1) (by omega) HM.out.1 (by rw [List.length_replicate]; exact Nat.le_refl _) (by unfold maxLen; omega) (by rw [List.length_replicate])).lies, by rw [List.length_replicate]; omega, R3.out.onto ((Below.refl _ _).alloc (Nat.le_refl _) _), ?_⟩
        exact (Onto2.of_onto O3.out).trans (Onto2.of_below ((Below.refl _ w3).alloc (Nat.le_refl _) _))
      · have c2 : (t == 2) = false := beq_eq_false_iff_ne.2 e2
        go_wp2_with fail
        go_ret
        exact ⟨_, zs, rfl, K2.out.lies hgr rfl hgc (by unfold maxLen; omega), by omega, R2.out.more (by omega), .of_onto O2.out⟩
theorem badTab2_len (r B g off cap n : Nat) (zs : List Int) (w : World) (hn : zs.length = n) (h : Rd w r B) (hB : B ≤ 900000) (hblk : BlkO w g off zs) (hgc : n ≤ cap) (hcm : cap ≤ 9223372036854775807) (h1 : 1 ≤ n) (h61 : n ≤ 61) (hgr : r < g) : Calls Try.prog 65 #[.pointer (some ⟨r, 0, none⟩), .slice (some ⟨g, off, none⟩) n cap] w (BadTab2 r B g w) := by
  subst hn
  exact badTab2_any r B g off cap zs w h hB hblk hgc hcm h1 h61 hgr
/-- A drawn table of a polynomial and its degree. -/
def TabDeg (r B : Nat) (w : World) (e : Ending) (w' : World) : Prop := ∃ (g cap d : Nat) (zs : List Int), e = .returned (.tuple #[.slice (some ⟨g, 0, none⟩) zs.length cap, .int .i64 d]) ∧ Blk w' g zs ∧ w.heap.size ≤ g ∧ zs.length ≤ cap ∧ cap ≤ 9223372036854775807 ∧ d ≤ 6 ∧ d + 3 ≤ zs.length ∧ zs.length ≤ d + 12 ∧ Rd w' r (B + 20) ∧ Onto r w w'
theorem deg_small (ps : List Int) (h : polyOk ps = true) : -1 ≤ degL ps ∧ degL ps ≤ 6 := by
  have ⟨h1, hs⟩ := polyOk_small _ h
  have h7 := hs.1
  have hp := trimTo_pos ps ps.length (by omega)
  have hle := trimTo_le ps ps.length
  unfold degL
  rw [h]
  simp only [if_true]
  split <;> omega
end Go.Proofs.Ytgnoclnenhmakaa
