/-
  The draw of a job that is sometimes not valid. No conditions but that the bytes that came in can be read.
-/
import Derived.Test.YtcinhmfjnjecdaaJobL
namespace Go.Proofs.Ytcinhmfjnjecdaa
set_option maxRecDepth 4000
open Go.RowKit
theorem JobAt.ontoG {w w' : World} {b t r g : Nat} {cs : Array Value} (h : JobAt w b t cs) (ho : OntoG r g w w') (hr : b ≠ r) (hg : b ≠ g) : JobAt w' b t cs := by
  unfold JobAt at *
  exact (ho.block b (Array.getElem?_eq_some_iff.1 h).1 hr hg).trans h
theorem OntoG.transN {r g c : Nat} {a b d : World} (h : OntoG r g a b) (k : Onto c b d) (hc : a.heap.size ≤ c) : OntoG r g a d :=
  ⟨k.os.trans h.os, k.tape.trans h.tape, k.output.trans h.output, Nat.le_trans h.size k.size, fun j hj hr hg => (k.block j (Nat.lt_of_lt_of_le hj h.size) (by omega)).trans (h.block j hj hr hg)⟩
theorem Onto.transG {r g : Nat} {a b d : World} (h : Onto r a b) (k : OntoG r g b d) : OntoG r g a d :=
  ⟨k.os.trans h.os, k.tape.trans h.tape, k.output.trans h.output, Nat.le_trans h.size k.size, fun j hj hr hg => (k.block j (Nat.lt_of_lt_of_le hj h.size) hr hg).trans (h.block j hj hr)⟩
def jn1 : List Int := [-201, 199, 200, 9223372036854775807]
def jn2 : List Int := [0, 60, 61, -1]
def jn3 : List Int := [0, 1, 2, 3, 13]
def jn4 : List Int := [-1, 7]
/-- A drawn job, sometimes not valid. -/
def BadJob (r B base g : Nat) (w : World) (e : Ending) (w' : World) : Prop := ∃ (v : Value) (zs : List Int) (F C Wd D Wy R A Wi : Int), e = .returned (jobV v F C Wd D Wy R A Wi) ∧ Row w' base w'.heap.size v zs ∧ zs.length ≤ 8 ∧ Rd w' r (B + 10) ∧ OntoG r g w w'
set_option maxHeartbeats 6400000 in
theorem jBad_any (r B base g cap : Nat) (zs : List Int) (F C Wd D Wy R A Wi : Int) (w : World) (h : Rd w r B) (hB : B ≤ 700000) (hown : w.ownsRow base 3 1 (.slice (some ⟨g, 0, none⟩) zs.length cap) zs.length (ints zs)) (h1 : 1 ≤ zs.length) (h6 : zs.length ≤ 6) (hr : r < base) (_hbs : base ≤ w.heap.size) : Calls Try.prog 59 #[.pointer (some ⟨r, 0, none⟩), jobV (.slice (some ⟨g, 0, none⟩) zs.length cap) F C Wd D Wy R A Wi] w (BadJob r B base g w) := by
  have hr0 := h.lt
  obtain ⟨g', cap', hv', hgc, hcm, hgb, hgw⟩ := owns_form hown h1
  injection hv' with hv1 hv2 hv3
  injection hv1 with hv1
  injection hv1 with hv1
  subst hv1
  subst hv3
  have K0 := hidH (show InJ w r B w.heap.size (w.heap.size + 1) base g zs.length cap zs (#[.slice (some ⟨g, 0, none⟩) zs.length cap, .int .i64 F, .int .i64 C, .int .i64 Wd, .int .i64 D, .int .i64 Wy, .int .i64 R, .int .i64 A, .int .i64 Wi] : Array Value) #[.slice none 0 0, .int .i64 0, .int .i64 0, .int .i64 0, .int .i64 0, .int .i64 0, .int .i64 0, .int .i64 0, .int .i64 0] ((w.alloc (.cells #[.slice (some ⟨g, 0, none⟩) zs.length cap, .int .i64 F, .int .i64 C, .int .i64 Wd, .int .i64 D, .int .i64 Wy, .int .i64 R, .int .i64 A, .int .i64 Wi] 38)).alloc (.cells #[.slice none 0 0, .int .i64 0, .int .i64 0, .int .i64 0, .int .i64 0, .int .i64 0, .int .i64 0, .int .i64 0, .int .i64 0] 38)) from ⟨heap_more (heap_alloc_new w _) _, by have h := heap_alloc_new (w.alloc (.cells #[.slice (some ⟨g, 0, none⟩) zs.length cap, .int .i64 F, .int .i64 C, .int .i64 Wd, .int .i64 D, .int .i64 Wy, .int .i64 R, .int .i64 A, .int .i64 Wi] 38)) (.cells #[.slice none 0 0, .int .i64 0, .int .i64 0, .int .i64 0, .int .i64 0, .int .i64 0, .int .i64 0, .int .i64 0, .int .i64 0] 38); simpa [JobAt] using h, owns_below (owns_below hown ((Below.refl _ _).alloc (Nat.le_refl _) _)) ((Below.refl _ _).alloc (Nat.le_refl _) _), (h.onto ((Below.refl _ _).alloc (Nat.le_refl _) _)).onto ((Below.refl _ _).alloc (Nat.le_refl _) _), ((Onto.refl r w).alloc _).alloc _⟩)
  have z0 : w.heap.size + 2 = ((w.alloc (.cells #[.slice (some ⟨g, 0, none⟩) zs.length cap, .int .i64 F, .int .i64 C, .int .i64 Wd, .int .i64 D, .int .i64 Wy, .int .i64 R, .int .i64 A, .int .i64 Wi] 38)).alloc (.cells #[.slice none 0 0, .int .i64 0, .int .i64 0, .int .i64 0, .int .i64 0, .int .i64 0, .int .i64 0, .int .i64 0, .int .i64 0] 38)).heap.size := by simp
  clear h hown
  unfold jobV jobC
  go_enter Try.func59, Try.ntmps59
  go_wp2_with fail
  refine (pick_any 30 r _ _ K0.out.2.2.2.1 (by omega)).mono ?_; rintro e w1 ⟨t, rfl, q0, q1, hR, hO⟩
  have K1 := hidH (K0.out.onto hO hR (by omega) (by omega) (by omega))
  have z1 := hO.size
  clear K0 q0 q1 hR hO
  by_cases e0 : t = 0
  · have b0 : (t == 0) = true := beq_iff_eq.2 e0
    clear e0
    have ca := K1.out.1.cell 0 _ rfl
    go_wp2_with fail
    clear ca
    refine (pBadG_any r _ base g cap zs w1 K1.out.2.2.2.1 (by omega) K1.out.2.2.1 h1 (by omega) hr (by omega)).mono ?_; rintro e w2 ⟨v, ys, lo, hi, rfl, hrow, hlo, hbl, hhi, h8, hR, hO⟩
    have J2 := hidH (K1.out.1.ontoG hO (by omega) (by omega))
    have T2 := hidH (K1.out.2.1.ontoG hO (by omega) (by omega))
    have R2 := hidH hR
    have O2 := hidH (K1.out.2.2.2.2.transG hO)
    have W2 := hidH hrow
    have z2 := hO.size
    clear K1 hrow hR hO
    have ca := J2.out.cell 0 _ rfl
    have fa := J2.out.free 0
    obtain ⟨va, vc, rfl⟩ := W2.out.lies.someJ
    have K3 := hidH (show JobAt (w2.setCell ⟨w.heap.size, 0, none⟩ (.slice va ys.length vc)) w.heap.size 38 (#[.slice va ys.length vc, .int .i64 F, .int .i64 C, .int .i64 Wd, .int .i64 D, .int .i64 Wy, .int .i64 R, .int .i64 A, .int .i64 Wi] : Array Value) ∧ JobAt (w2.setCell ⟨w.heap.size, 0, none⟩ (.slice va ys.length vc)) (w.heap.size + 1) 38 #[.slice none 0 0, .int .i64 0, .int .i64 0, .int .i64 0, .int .i64 0, .int .i64 0, .int .i64 0, .int .i64 0, .int .i64 0] from ⟨J2.out.set 0 _, T2.out.other _ _ _ (by omega)⟩)
    have HSC := hidH (Onto.setCell w.heap.size 0 w2 (.slice va ys.length vc))
    have SZ := hidH (job_size (.slice va ys.length vc) (F) (C) (Wd) (D) (Wy) (R) (A) (Wi))
    unfold jobC at SZ
    go_wp2_with (first
      | (refine wpList_load_row rfl 38 _ rfl w.heap.size rfl 38 #[.slice va ys.length vc, .int .i64 F, .int .i64 C, .int .i64 Wd, .int .i64 D, .int .i64 Wy, .int .i64 R, .int .i64 A, .int .i64 Wi] (0, 0) _ K3.out.1 Try.underlying38 rfl SZ.out ?_)
      | (refine wpList_store_row rfl 38 _ _ rfl (w.heap.size + 1) #[.slice va ys.length vc, .int .i64 F, .int .i64 C, .int .i64 Wd, .int .i64 D, .int .i64 Wy, .int .i64 R, .int .i64 A, .int .i64 Wi] rfl rfl 38 _ K3.out.2 SZ.out rfl (by simp [Value.oneCell']) ?_))
    refine bodyPost_ret (results_cell_row Try.results59 _ _ (w.heap.size + 1) 38 _ (0, 0) _ rfl (K3.out.2.setRow _) Try.underlying38 rfl SZ.out) rfl ?_
    exact ⟨_, ys, _, _, _, _, _, _, _, _, rfl, (((W2.out.apart (Apart.of_onto (lo := w.heap.size) (hi := w.heap.size + 1) HSC.out (Nat.le_refl _) (Nat.lt_succ_self _)) (by omega)).apart (Apart.of_onto (lo := w.heap.size + 1) (hi := w.heap.size + 2) (ontoRow (w.heap.size + 1) _ _) (Nat.le_refl _) (Nat.lt_succ_self _)) (by omega)).mono hbl (by have := HSC.out.size; simpa using hhi)), h8, ((R2.out.ontoN HSC.out (by omega)).ontoN (ontoRow (w.heap.size + 1) _ _) (by omega)).more (by omega), (O2.out.transN HSC.out (by omega)).transN (ontoRow (w.heap.size + 1) _ _) (by omega)⟩
  · have b0 : (t == 0) = false := beq_eq_false_iff_ne.2 e0
    clear e0
    by_cases e1 : t = 1
    · have b1 : (t == 1) = true := beq_iff_eq.2 e1
      clear e1
      go_wp2_with fail
      have hN := num_any w1.heap.size 0 jn1 r _ (w1.alloc (.cells (intC jn1) 3)) (K1.out.2.2.2.1.onto ((Below.refl _ _).alloc (Nat.le_refl _) _)) (by omega) (by decide) (by decide) (ints_new _ _ _ _ K1.out.2.2.2.1.lt)
      refine hN.mono ?_; rintro e w2 ⟨x, hz, rfl, hR, hO⟩
      have K2 := hidH (K1.out.onto (((Onto.refl _ _).alloc (.cells (intC jn1) 3)).trans hO) hR (by omega) (by omega) (by omega))
      clear hN hz hR hO K1
      have ca := K2.out.1.cell 1 _ rfl
      have fa := K2.out.1.free 1
      have K3 := hidH (K2.out.put (by omega) (by omega) (by omega) (by omega) 1 (.int .i64 x) (#[.slice (some ⟨g, 0, none⟩) zs.length cap, .int .i64 x, .int .i64 C, .int .i64 Wd, .int .i64 D, .int .i64 Wy, .int .i64 R, .int .i64 A, .int .i64 Wi] : Array Value) rfl)
      have SZ := hidH (job_size (.slice (some ⟨g, 0, none⟩) zs.length cap) (x) (C) (Wd) (D) (Wy) (R) (A) (Wi))
      unfold jobC at SZ
      go_wp2_with (first
        | (refine wpList_load_row rfl 38 _ rfl w.heap.size rfl 38 #[.slice (some ⟨g, 0, none⟩) zs.length cap, .int .i64 x, .int .i64 C, .int .i64 Wd, .int .i64 D, .int .i64 Wy, .int .i64 R, .int .i64 A, .int .i64 Wi] (0, 0) _ K3.out.1 Try.underlying38 rfl SZ.out ?_)
        | (refine wpList_store_row rfl 38 _ _ rfl (w.heap.size + 1) #[.slice (some ⟨g, 0, none⟩) zs.length cap, .int .i64 x, .int .i64 C, .int .i64 Wd, .int .i64 D, .int .i64 Wy, .int .i64 R, .int .i64 A, .int .i64 Wi] rfl rfl 38 _ K3.out.2.1 SZ.out rfl (by simp [Value.oneCell']) ?_))
      refine bodyPost_ret (results_cell_row Try.results59 _ _ (w.heap.size + 1) 38 _ (0, 0) _ rfl (K3.out.2.1.setRow _) Try.underlying38 rfl SZ.out) rfl ?_
      exact ⟨_, zs, _, _, _, _, _, _, _, _, rfl, (row_of_owns (owns_ontoN K3.out.2.2.1 (ontoRow (w.heap.size + 1) _ _) (by omega))).1, by omega, (K3.out.2.2.2.1.ontoN (ontoRow (w.heap.size + 1) _ _) (by omega)).more (by omega), (K3.out.2.2.2.2.transN (ontoRow (w.heap.size + 1) _ _) (by omega)).toG g⟩
    · have b1 : (t == 1) = false := beq_eq_false_iff_ne.2 e1
      clear e1
      by_cases e2 : t = 2
      · have b2 : (t == 2) = true := beq_iff_eq.2 e2
        clear e2
        go_wp2_with fail
        have hN := num_any w1.heap.size 0 jn2 r _ (w1.alloc (.cells (intC jn2) 3)) (K1.out.2.2.2.1.onto ((Below.refl _ _).alloc (Nat.le_refl _) _)) (by omega) (by decide) (by decide) (ints_new _ _ _ _ K1.out.2.2.2.1.lt)
        refine hN.mono ?_; rintro e w2 ⟨x, hz, rfl, hR, hO⟩
        have K2 := hidH (K1.out.onto (((Onto.refl _ _).alloc (.cells (intC jn2) 3)).trans hO) hR (by omega) (by omega) (by omega))
        clear hN hz hR hO K1
        have ca := K2.out.1.cell 2 _ rfl
        have fa := K2.out.1.free 2
        have K3 := hidH (K2.out.put (by omega) (by omega) (by omega) (by omega) 2 (.int .i64 x) (#[.slice (some ⟨g, 0, none⟩) zs.length cap, .int .i64 F, .int .i64 x, .int .i64 Wd, .int .i64 D, .int .i64 Wy, .int .i64 R, .int .i64 A, .int .i64 Wi] : Array Value) rfl)
        have SZ := hidH (job_size (.slice (some ⟨g, 0, none⟩) zs.length cap) (F) (x) (Wd) (D) (Wy) (R) (A) (Wi))
        unfold jobC at SZ
        go_wp2_with (first
          | (refine wpList_load_row rfl 38 _ rfl w.heap.size rfl 38 #[.slice (some ⟨g, 0, none⟩) zs.length cap, .int .i64 F, .int .i64 x, .int .i64 Wd, .int .i64 D, .int .i64 Wy, .int .i64 R, .int .i64 A, .int .i64 Wi] (0, 0) _ K3.out.1 Try.underlying38 rfl SZ.out ?_)
          | (refine wpList_store_row rfl 38 _ _ rfl (w.heap.size + 1) #[.slice (some ⟨g, 0, none⟩) zs.length cap, .int .i64 F, .int .i64 x, .int .i64 Wd, .int .i64 D, .int .i64 Wy, .int .i64 R, .int .i64 A, .int .i64 Wi] rfl rfl 38 _ K3.out.2.1 SZ.out rfl (by simp [Value.oneCell']) ?_))
        refine bodyPost_ret (results_cell_row Try.results59 _ _ (w.heap.size + 1) 38 _ (0, 0) _ rfl (K3.out.2.1.setRow _) Try.underlying38 rfl SZ.out) rfl ?_
        exact ⟨_, zs, _, _, _, _, _, _, _, _, rfl, (row_of_owns (owns_ontoN K3.out.2.2.1 (ontoRow (w.heap.size + 1) _ _) (by omega))).1, by omega, (K3.out.2.2.2.1.ontoN (ontoRow (w.heap.size + 1) _ _) (by omega)).more (by omega), (K3.out.2.2.2.2.transN (ontoRow (w.heap.size + 1) _ _) (by omega)).toG g⟩
      · have b2 : (t == 2) = false := beq_eq_false_iff_ne.2 e2
        clear e2
        by_cases e3 : t = 3
        · have b3 : (t == 3) = true := beq_iff_eq.2 e3
          clear e3
          go_wp2_with fail
          have hN := num_any w1.heap.size 0 jn3 r _ (w1.alloc (.cells (intC jn3) 3)) (K1.out.2.2.2.1.onto ((Below.refl _ _).alloc (Nat.le_refl _) _)) (by omega) (by decide) (by decide) (ints_new _ _ _ _ K1.out.2.2.2.1.lt)
          refine hN.mono ?_; rintro e w2 ⟨x, hz, rfl, hR, hO⟩
          have K2 := hidH (K1.out.onto (((Onto.refl _ _).alloc (.cells (intC jn3) 3)).trans hO) hR (by omega) (by omega) (by omega))
          clear hN hz hR hO K1
          have ca := K2.out.1.cell 3 _ rfl
          have fa := K2.out.1.free 3
          have K3 := hidH (K2.out.put (by omega) (by omega) (by omega) (by omega) 3 (.int .i64 x) (#[.slice (some ⟨g, 0, none⟩) zs.length cap, .int .i64 F, .int .i64 C, .int .i64 x, .int .i64 D, .int .i64 Wy, .int .i64 R, .int .i64 A, .int .i64 Wi] : Array Value) rfl)
          have SZ := hidH (job_size (.slice (some ⟨g, 0, none⟩) zs.length cap) (F) (C) (x) (D) (Wy) (R) (A) (Wi))
          unfold jobC at SZ
          go_wp2_with (first
            | (refine wpList_load_row rfl 38 _ rfl w.heap.size rfl 38 #[.slice (some ⟨g, 0, none⟩) zs.length cap, .int .i64 F, .int .i64 C, .int .i64 x, .int .i64 D, .int .i64 Wy, .int .i64 R, .int .i64 A, .int .i64 Wi] (0, 0) _ K3.out.1 Try.underlying38 rfl SZ.out ?_)
            | (refine wpList_store_row rfl 38 _ _ rfl (w.heap.size + 1) #[.slice (some ⟨g, 0, none⟩) zs.length cap, .int .i64 F, .int .i64 C, .int .i64 x, .int .i64 D, .int .i64 Wy, .int .i64 R, .int .i64 A, .int .i64 Wi] rfl rfl 38 _ K3.out.2.1 SZ.out rfl (by simp [Value.oneCell']) ?_))
          refine bodyPost_ret (results_cell_row Try.results59 _ _ (w.heap.size + 1) 38 _ (0, 0) _ rfl (K3.out.2.1.setRow _) Try.underlying38 rfl SZ.out) rfl ?_
          exact ⟨_, zs, _, _, _, _, _, _, _, _, rfl, (row_of_owns (owns_ontoN K3.out.2.2.1 (ontoRow (w.heap.size + 1) _ _) (by omega))).1, by omega, (K3.out.2.2.2.1.ontoN (ontoRow (w.heap.size + 1) _ _) (by omega)).more (by omega), (K3.out.2.2.2.2.transN (ontoRow (w.heap.size + 1) _ _) (by omega)).toG g⟩
        · have b3 : (t == 3) = false := beq_eq_false_iff_ne.2 e3
          clear e3
          by_cases e4 : t = 4
          · have b4 : (t == 4) = true := beq_iff_eq.2 e4
            clear e4
            go_wp2_with fail
            have hN := num_any w1.heap.size 0 jn4 r _ (w1.alloc (.cells (intC jn4) 3)) (K1.out.2.2.2.1.onto ((Below.refl _ _).alloc (Nat.le_refl _) _)) (by omega) (by decide) (by decide) (ints_new _ _ _ _ K1.out.2.2.2.1.lt)
            refine hN.mono ?_; rintro e w2 ⟨x, hz, rfl, hR, hO⟩
            have K2 := hidH (K1.out.onto (((Onto.refl _ _).alloc (.cells (intC jn4) 3)).trans hO) hR (by omega) (by omega) (by omega))
            clear hN hz hR hO K1
            have ca := K2.out.1.cell 4 _ rfl
            have fa := K2.out.1.free 4
            have K3 := hidH (K2.out.put (by omega) (by omega) (by omega) (by omega) 4 (.int .i64 x) (#[.slice (some ⟨g, 0, none⟩) zs.length cap, .int .i64 F, .int .i64 C, .int .i64 Wd, .int .i64 x, .int .i64 Wy, .int .i64 R, .int .i64 A, .int .i64 Wi] : Array Value) rfl)
            have SZ := hidH (job_size (.slice (some ⟨g, 0, none⟩) zs.length cap) (F) (C) (Wd) (x) (Wy) (R) (A) (Wi))
            unfold jobC at SZ
            go_wp2_with (first
              | (refine wpList_load_row rfl 38 _ rfl w.heap.size rfl 38 #[.slice (some ⟨g, 0, none⟩) zs.length cap, .int .i64 F, .int .i64 C, .int .i64 Wd, .int .i64 x, .int .i64 Wy, .int .i64 R, .int .i64 A, .int .i64 Wi] (0, 0) _ K3.out.1 Try.underlying38 rfl SZ.out ?_)
              | (refine wpList_store_row rfl 38 _ _ rfl (w.heap.size + 1) #[.slice (some ⟨g, 0, none⟩) zs.length cap, .int .i64 F, .int .i64 C, .int .i64 Wd, .int .i64 x, .int .i64 Wy, .int .i64 R, .int .i64 A, .int .i64 Wi] rfl rfl 38 _ K3.out.2.1 SZ.out rfl (by simp [Value.oneCell']) ?_))
            refine bodyPost_ret (results_cell_row Try.results59 _ _ (w.heap.size + 1) 38 _ (0, 0) _ rfl (K3.out.2.1.setRow _) Try.underlying38 rfl SZ.out) rfl ?_
            exact ⟨_, zs, _, _, _, _, _, _, _, _, rfl, (row_of_owns (owns_ontoN K3.out.2.2.1 (ontoRow (w.heap.size + 1) _ _) (by omega))).1, by omega, (K3.out.2.2.2.1.ontoN (ontoRow (w.heap.size + 1) _ _) (by omega)).more (by omega), (K3.out.2.2.2.2.transN (ontoRow (w.heap.size + 1) _ _) (by omega)).toG g⟩
          · have b4 : (t == 4) = false := beq_eq_false_iff_ne.2 e4
            clear e4
            by_cases e5 : t = 5
            · have b5 : (t == 5) = true := beq_iff_eq.2 e5
              clear e5
              have ca := K1.out.1.cell 5 _ rfl
              have fa := K1.out.1.free 5
              have K3 := hidH (K1.out.put (by omega) (by omega) (by omega) (by omega) 5 (.int .i64 3) (#[.slice (some ⟨g, 0, none⟩) zs.length cap, .int .i64 F, .int .i64 C, .int .i64 Wd, .int .i64 D, .int .i64 3, .int .i64 R, .int .i64 A, .int .i64 Wi] : Array Value) rfl)
              have SZ := hidH (job_size (.slice (some ⟨g, 0, none⟩) zs.length cap) (F) (C) (Wd) (D) (3) (R) (A) (Wi))
              unfold jobC at SZ
              go_wp2_with (first
                | (refine wpList_load_row rfl 38 _ rfl w.heap.size rfl 38 #[.slice (some ⟨g, 0, none⟩) zs.length cap, .int .i64 F, .int .i64 C, .int .i64 Wd, .int .i64 D, .int .i64 3, .int .i64 R, .int .i64 A, .int .i64 Wi] (0, 0) _ K3.out.1 Try.underlying38 rfl SZ.out ?_)
                | (refine wpList_store_row rfl 38 _ _ rfl (w.heap.size + 1) #[.slice (some ⟨g, 0, none⟩) zs.length cap, .int .i64 F, .int .i64 C, .int .i64 Wd, .int .i64 D, .int .i64 3, .int .i64 R, .int .i64 A, .int .i64 Wi] rfl rfl 38 _ K3.out.2.1 SZ.out rfl (by simp [Value.oneCell']) ?_))
              refine bodyPost_ret (results_cell_row Try.results59 _ _ (w.heap.size + 1) 38 _ (0, 0) _ rfl (K3.out.2.1.setRow _) Try.underlying38 rfl SZ.out) rfl ?_
              exact ⟨_, zs, _, _, _, _, _, _, _, _, rfl, (row_of_owns (owns_ontoN K3.out.2.2.1 (ontoRow (w.heap.size + 1) _ _) (by omega))).1, by omega, (K3.out.2.2.2.1.ontoN (ontoRow (w.heap.size + 1) _ _) (by omega)).more (by omega), (K3.out.2.2.2.2.transN (ontoRow (w.heap.size + 1) _ _) (by omega)).toG g⟩
            · have b5 : (t == 5) = false := beq_eq_false_iff_ne.2 e5
              clear e5
              by_cases e6 : t = 6
              · have b6 : (t == 6) = true := beq_iff_eq.2 e6
                clear e6
                go_wp2_with fail
                refine (layout6_any r _ _ K1.out.2.2.2.1 (by omega)).mono ?_; rintro e w2 ⟨R2, A2, W2, rfl, hR, hO⟩
                have K2 := hidH (K1.out.onto hO hR (by omega) (by omega) (by omega))
                clear hR hO K1
                unfold layV
                have c6 := K2.out.1.cell 6 _ rfl
                have f6 := K2.out.1.free 6
                have c7 := K2.out.1.cell 7 _ rfl
                have f7 := K2.out.1.free 7
                have c8 := K2.out.1.cell 8 _ rfl
                have f8 := K2.out.1.free 8
                have K3 := hidH (((K2.out.put (by omega) (by omega) (by omega) (by omega) 6 (.int .i64 R2) (#[.slice (some ⟨g, 0, none⟩) zs.length cap, .int .i64 F, .int .i64 C, .int .i64 Wd, .int .i64 D, .int .i64 Wy, .int .i64 R2, .int .i64 A, .int .i64 Wi] : Array Value) rfl).put (by omega) (by omega) (by omega) (by omega) 7 (.int .i64 A2) (#[.slice (some ⟨g, 0, none⟩) zs.length cap, .int .i64 F, .int .i64 C, .int .i64 Wd, .int .i64 D, .int .i64 Wy, .int .i64 R2, .int .i64 A2, .int .i64 Wi] : Array Value) rfl).put (by omega) (by omega) (by omega) (by omega) 8 (.int .i64 W2) (#[.slice (some ⟨g, 0, none⟩) zs.length cap, .int .i64 F, .int .i64 C, .int .i64 Wd, .int .i64 D, .int .i64 Wy, .int .i64 R2, .int .i64 A2, .int .i64 W2] : Array Value) rfl)
                have SZ := hidH (job_size (.slice (some ⟨g, 0, none⟩) zs.length cap) (F) (C) (Wd) (D) (Wy) (R2) (A2) (W2))
                unfold jobC at SZ
                go_wp2_with (first
                  | (refine wpList_load_row rfl 38 _ rfl w.heap.size rfl 38 #[.slice (some ⟨g, 0, none⟩) zs.length cap, .int .i64 F, .int .i64 C, .int .i64 Wd, .int .i64 D, .int .i64 Wy, .int .i64 R2, .int .i64 A2, .int .i64 W2] (0, 0) _ K3.out.1 Try.underlying38 rfl SZ.out ?_)
                  | (refine wpList_store_row rfl 38 _ _ rfl (w.heap.size + 1) #[.slice (some ⟨g, 0, none⟩) zs.length cap, .int .i64 F, .int .i64 C, .int .i64 Wd, .int .i64 D, .int .i64 Wy, .int .i64 R2, .int .i64 A2, .int .i64 W2] rfl rfl 38 _ K3.out.2.1 SZ.out rfl (by simp [Value.oneCell']) ?_))
                refine bodyPost_ret (results_cell_row Try.results59 _ _ (w.heap.size + 1) 38 _ (0, 0) _ rfl (K3.out.2.1.setRow _) Try.underlying38 rfl SZ.out) rfl ?_
                exact ⟨_, zs, _, _, _, _, _, _, _, _, rfl, (row_of_owns (owns_ontoN K3.out.2.2.1 (ontoRow (w.heap.size + 1) _ _) (by omega))).1, by omega, (K3.out.2.2.2.1.ontoN (ontoRow (w.heap.size + 1) _ _) (by omega)).more (by omega), (K3.out.2.2.2.2.transN (ontoRow (w.heap.size + 1) _ _) (by omega)).toG g⟩
              · have b6 : (t == 6) = false := beq_eq_false_iff_ne.2 e6
                clear e6
                have SZ := hidH (job_size (.slice (some ⟨g, 0, none⟩) zs.length cap) (F) (C) (Wd) (D) (Wy) (R) (A) (Wi))
                unfold jobC at SZ
                go_wp2_with (first
                  | (refine wpList_load_row rfl 38 _ rfl w.heap.size rfl 38 #[.slice (some ⟨g, 0, none⟩) zs.length cap, .int .i64 F, .int .i64 C, .int .i64 Wd, .int .i64 D, .int .i64 Wy, .int .i64 R, .int .i64 A, .int .i64 Wi] (0, 0) _ K1.out.1 Try.underlying38 rfl SZ.out ?_)
                  | (refine wpList_store_row rfl 38 _ _ rfl (w.heap.size + 1) #[.slice (some ⟨g, 0, none⟩) zs.length cap, .int .i64 F, .int .i64 C, .int .i64 Wd, .int .i64 D, .int .i64 Wy, .int .i64 R, .int .i64 A, .int .i64 Wi] rfl rfl 38 _ K1.out.2.1 SZ.out rfl (by simp [Value.oneCell']) ?_))
                refine bodyPost_ret (results_cell_row Try.results59 _ _ (w.heap.size + 1) 38 _ (0, 0) _ rfl (K1.out.2.1.setRow _) Try.underlying38 rfl SZ.out) rfl ?_
                exact ⟨_, zs, _, _, _, _, _, _, _, _, rfl, (row_of_owns (owns_ontoN K1.out.2.2.1 (ontoRow (w.heap.size + 1) _ _) (by omega))).1, by omega, (K1.out.2.2.2.1.ontoN (ontoRow (w.heap.size + 1) _ _) (by omega)).more (by omega), (K1.out.2.2.2.2.transN (ontoRow (w.heap.size + 1) _ _) (by omega)).toG g⟩
end Go.Proofs.Ytcinhmfjnjecdaa
