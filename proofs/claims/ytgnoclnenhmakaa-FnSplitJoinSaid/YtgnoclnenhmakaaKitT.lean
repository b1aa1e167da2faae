/-
  Drawn polynomials whose numbers are small. Condition: the reader has been asked at most 900000 times.
  Drawn tables, which are sometimes none. Condition: the reader has been asked at most 800000 times.
-/
import Derived.Test.YtgnoclnenhmakaaKitP
import Derived.Test.YtgnoclnenhmakaaPolyFa
namespace Go.Proofs.Ytgnoclnenhmakaa
set_option maxRecDepth 4000
open Go.RowKit
/-- A drawn row of small numbers. -/
def SomeRowS (r B : Nat) (w : World) (e : Ending) (w' : World) : Prop := ∃ (v : Value) (zs : List Int), e = .returned v ∧ w'.ownsRow w.heap.size 3 1 v zs.length (ints zs) ∧ 1 ≤ zs.length ∧ zs.length ≤ 6 ∧ (∀ x ∈ zs, -1000 ≤ x ∧ x ≤ 1000) ∧ Rd w' r (B + 15) ∧ Onto r w w'
theorem bnd_snoc {zs : List Int} {x : Int} (h : ∀ x ∈ zs, -1000 ≤ x ∧ x ≤ 1000) (h0 : -1000 ≤ x) (h1 : x ≤ 1000) : ∀ y ∈ zs ++ [x], -1000 ≤ y ∧ y ≤ 1000 := by
  intro y hy
  rcases List.mem_append.1 hy with hy | hy
  · exact h y hy
  · simp at hy
    rw [hy]
    exact ⟨h0, h1⟩
end Go.Proofs.Ytgnoclnenhmakaa
namespace Go.Proofs.Ytgnoclnenhmakaa
set_option maxRecDepth 4000
open Go.RowKit
theorem Row.onto {w w' : World} {r lo hi : Nat} {v : Value} {zs : List Int} (H : Row w lo hi v zs) (ho : Onto r w w') (hr : r < lo) : Row w' lo hi v zs :=
  H.apart (lo := r) (hi := r + 1) (Apart.of_onto ho (Nat.le_refl _) (Nat.lt_succ_self _)) (Or.inr hr)
theorem onto_setNew {r b : Nat} {w0 w : World} (h : Onto r w0 w) (hb : w0.heap.size ≤ b) (i : Nat) (v : Value) : Onto r w0 (w.setCell ⟨b, i, none⟩ v) := by
  have o := Onto.setCell b i w v
  exact ⟨o.os.trans h.os, o.tape.trans h.tape, o.output.trans h.output, Nat.le_trans h.size o.size, fun k hk hr => (o.block k (Nat.lt_of_lt_of_le hk h.size) (by omega)).trans (h.block k hk hr)⟩
/-- A drawn table of its own. -/
def TabRow (most r B : Nat) (w : World) (e : Ending) (w' : World) : Prop := ∃ (v : Value) (zs : List Int), e = .returned v ∧ Row w' w.heap.size w'.heap.size v zs ∧ 1 ≤ zs.length ∧ zs.length ≤ most ∧ Rd w' r (B + 40) ∧ Onto r w w'
def tabNums : List Int := [1000000000, 1000000001, -1000000001, 9223372036854775807]
def tabLens : List Int := [30, 31, 60, 61]
/-- A drawn row that is sometimes no table. -/
def BadTab (r B base : Nat) (w : World) (e : Ending) (w' : World) : Prop := ∃ (v : Value) (zs : List Int), e = .returned v ∧ Row w' base w'.heap.size v zs ∧ zs.length ≤ 61 ∧ Rd w' r (B + 3) ∧ OntoB r base w w'
set_option maxHeartbeats 1600000 in
theorem badTab_any (r B base : Nat) (v : Value) (zs : List Int) (w : World) (h : Rd w r B) (hB : B ≤ 900000) (hrow : Row w base w.heap.size v zs) (h1 : 1 ≤ zs.length) (h61 : zs.length ≤ 61) (hr : r < base) (hbs : base ≤ w.heap.size) : Calls Try.prog 65 #[.pointer (some ⟨r, 0, none⟩), v] w (BadTab r B base w) := by
  obtain ⟨g, cap, rfl, hgc, hcm, hgb, hgw, hblk⟩ := hrow.blk (by omega)
  unfold maxLen at hcm
  have K0 := hidH hblk
  have HR := hidH h
  clear h hblk hrow
  go_enter Try.func65, Try.ntmps65
  go_wp2_with fail
  refine (pick_any zs.length r B w HR.out (by omega)).mono ?_
  rintro e w1 ⟨x, rfl, x0, x1, hR1, hO1⟩
  have hx := x1 (by omega)
  have R1 := hidH hR1
  have O1 := hidH hO1
  have s1 := hO1.size
  have K1 := hidH (K0.out.apart (lo := r) (hi := r + 1) (Apart.of_onto hO1 (Nat.le_refl _) (Nat.lt_succ_self _)) (by omega))
  clear x1 hR1 hO1 K0 HR
  obtain ⟨k, rfl⟩ := Int.eq_ofNat_of_zero_le x0
  go_wp2_with fail
  refine (pick_any 40 r (B + 1) w1 R1.out (by omega)).mono ?_
  rintro e w2 ⟨t, rfl, t0, t1, hR2, hO2⟩
  have R2 := hidH hR2
  have O2 := hidH (O1.out.trans hO2)
  have s2 := O2.out.size
  have K2 := hidH (K1.out.apart (lo := r) (hi := r + 1) (Apart.of_onto hO2 (Nat.le_refl _) (Nat.lt_succ_self _)) (by omega))
  clear t1 hR2 hO2 K1 R1 O1
  by_cases e0 : t = 0
  · subst e0
    go_wp2_with fail
    have hN := num_any w2.heap.size 0 tabNums r (B + 1 + 1) (w2.alloc (.cells (intC tabNums) 3)) (R2.out.onto ((Below.refl _ _).alloc (Nat.le_refl _) _)) (by omega) (by decide) (by decide) (ints_new _ _ _ _ R2.out.lt)
    refine hN.mono ?_
    rintro e w3 ⟨z, hz, rfl, hR3, hO3⟩
    have R3 := hidH hR3
    have O3 := hidH (O2.out.trans (((Onto.refl r _).alloc (.cells (intC tabNums) 3)).trans hO3))
    have K3 := hidH ((K2.out.below ((Below.refl _ _).alloc (Nat.le_refl _) (.cells (intC tabNums) 3))).apart (lo := r) (hi := r + 1) (Apart.of_onto hO3 (Nat.le_refl _) (Nat.lt_succ_self _)) (by omega))
    clear hN hz hR3 hO3 K2 R2 O2
    have hkl : k < zs.length := by omega
    obtain ⟨y, hy⟩ := get_lt zs k hkl
    obtain ⟨hcy, hfy⟩ := K3.out.2 k y hy
    have K4 := hidH (K3.out.set k z)
    clear hy
    go_wp2_with fail
    go_ret
    refine ⟨_, zs.set k z, rfl, K4.out.row hgb K4.out.1 (by rw [List.length_set]; exact hgc) (by unfold maxLen; omega) (by rw [List.length_set]), by rw [List.length_set]; omega, ?_, ?_⟩
    · exact R3.out.low ((Below.refl (r + 1) w3).setCell (p := ⟨g, k, none⟩) (by show r + 1 ≤ g; omega) _)
    · exact (O3.out.toB hbs).trans (OntoB.of_below ((Below.refl base w3).setCell (p := ⟨g, k, none⟩) hgb _))
  · have c0 : (t == 0) = false := beq_eq_false_iff_ne.2 e0
    by_cases e1 : t = 1
    · subst e1
      clear e0
      go_wp2_with fail
      go_ret
      exact ⟨_, [], rfl, Row.nil _ _ _ _ _ (by unfold maxLen; omega) (fun h => by cases h), by simp, R2.out.more (by omega), O2.out.toB hbs⟩
    · have c1 : (t == 1) = false := beq_eq_false_iff_ne.2 e1
      by_cases e2 : t = 2
      · subst e2
        clear e0 e1
        go_wp2_with fail
        have hN := num_any w2.heap.size 0 tabLens r (B + 1 + 1) (w2.alloc (.cells (intC tabLens) 3)) (R2.out.onto ((Below.refl _ _).alloc (Nat.le_refl _) _)) (by omega) (by decide) (by decide) (ints_new _ _ _ _ R2.out.lt)
        refine hN.mono ?_
        rintro e w3 ⟨z, hz, rfl, hR3, hO3⟩
        have R3 := hidH hR3
        have O3 := hidH (O2.out.trans (((Onto.refl r _).alloc (.cells (intC tabLens) 3)).trans hO3))
        have hz2 : 1 ≤ z ∧ z ≤ 61 := by
          have h : tabLens.all (fun z => decide (1 ≤ z ∧ z ≤ 61)) = true := by decide
          exact of_decide_eq_true (List.all_eq_true.1 h z hz)
        obtain ⟨m, rfl⟩ := Int.eq_ofNat_of_zero_le (show 0 ≤ z by omega)
        have hmk := run_make_row' (P := Try.prog) 28 3 (.int .i64 0) 8 Try.underlying28 infoInt rfl .i64 .i64 m (by omega) (by omega) w3
        have HM := hidH (Blk.made w3 3 m)
        have s3 := O3.out.size
        clear hN hz hR3 hO3 K2 R2 O2
        go_wp2_with fail
        go_ret
        refine ⟨_, List.replicate m 0, rfl, HM.out.row (by omega) HM.out.1 (by rw [List.length_replicate]; exact Nat.le_refl _) (by unfold maxLen; omega) (by rw [List.length_replicate]), by rw [List.length_replicate]; omega, R3.out.onto ((Below.refl _ _).alloc (Nat.le_refl _) _), ?_⟩
        exact (O3.out.toB hbs).trans (OntoB.of_below ((Below.refl base w3).alloc (by omega) _))
      · have c2 : (t == 2) = false := beq_eq_false_iff_ne.2 e2
        go_wp2_with fail
        go_ret
        exact ⟨_, zs, rfl, K2.out.row hgb K2.out.1 hgc (by unfold maxLen; omega) rfl, by omega, R2.out.more (by omega), O2.out.toB hbs⟩
/-- A drawn slice of at most 61 numbers. -/
def DrawT1 (w : World) (e : Ending) (w' : World) : Prop := ∃ (v : Value) (zs : List Int), e = .returned v ∧ Row w' w.heap.size w'.heap.size v zs ∧ zs.length ≤ 61 ∧ Below w.heap.size w w'
end Go.Proofs.Ytgnoclnenhmakaa
