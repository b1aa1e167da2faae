/-
  The draw of a job. No conditions but that the bytes that came in can be read.
-/
import Derived.Test.YtcinhmfjnjecdaaJobF
import Derived.Test.YtcinhmfjnjecdaaRkD
namespace Go.Proofs.Ytcinhmfjnjecdaa
set_option maxRecDepth 4000
open Go.RowKit
theorem owns_ontoN {w w' : World} {base e n g c cap : Nat} {xs : List Value} (H : w.ownsRow base e 1 (.slice (some ⟨g, 0, none⟩) n cap) n xs) (ho : Onto c w w') (hne : g ≠ c) : w'.ownsRow base e 1 (.slice (some ⟨g, 0, none⟩) n cap) n xs := by
  obtain ⟨hl, h⟩ := H
  refine ⟨hl, ?_⟩
  rcases h with ⟨h1, h2⟩ | ⟨g2, cap2, cur, hv2, hg, hh, hn, hc, hsz, ht⟩
  · cases h1
  · injection hv2 with e1 e2 e3
    injection e1 with e1
    injection e1 with e1
    subst e1 e3
    exact Or.inr ⟨g, cap, cur, rfl, hg, (ho.block g (Array.getElem?_eq_some_iff.1 hh).1 hne).trans hh, hn, hc, hsz, ht⟩
theorem JobAt.onto {w w' : World} {b t r : Nat} {cs : Array Value} (h : JobAt w b t cs) (ho : Onto r w w') (hd : b ≠ r) : JobAt w' b t cs := by
  unfold JobAt at *
  exact (ho.block b (Array.getElem?_eq_some_iff.1 h).1 hd).trans h
theorem Rd.ontoN {w w' : World} {r B c : Nat} (h : Rd w r B) (ho : Onto c w w') (hc : r < c) : Rd w' r B := h.low ⟨ho.os, ho.tape, ho.output, ho.size, fun k hk => by
  by_cases hkw : k < w.heap.size
  · exact ho.block k hkw (by omega)
  · have := h.lt
    omega⟩
theorem Onto.transN {r c : Nat} {a b d : World} (h : Onto r a b) (k : Onto c b d) (hc : a.heap.size ≤ c) : Onto r a d :=
  ⟨k.os.trans h.os, k.tape.trans h.tape, k.output.trans h.output, Nat.le_trans h.size k.size, fun j hj hr => (k.block j (Nat.lt_of_lt_of_le hj h.size) (by omega)).trans (h.block j hj hr)⟩
/-- A job under way in block b, the result's block c, its differences in block g. -/
def InJ (a : World) (r B b c base g n cap : Nat) (zs : List Int) (cs ds : Array Value) (w : World) : Prop :=
  JobAt w b 38 cs ∧ JobAt w c 38 ds ∧ w.ownsRow base 3 1 (.slice (some ⟨g, 0, none⟩) n cap) n (ints zs) ∧ Rd w r B ∧ Onto r a w
theorem InJ.put {a w : World} {r B b c base g n cap : Nat} {zs : List Int} {cs ds : Array Value} (h : InJ a r B b c base g n cap zs cs ds w) (hr : r < b) (ha : a.heap.size ≤ b) (hc : c ≠ b) (hg : g ≠ b) (i : Nat) (x : Value) (es : Array Value) (he : cs.setIfInBounds i x = es) : InJ a r B b c base g n cap zs es ds (w.setCell ⟨b, i, none⟩ x) :=
  ⟨by rw [← he]; exact h.1.set i x, h.2.1.other b i x hc, owns_ontoN h.2.2.1 (Onto.setCell b i w x) hg, h.2.2.2.1.ontoN (Onto.setCell b i w x) hr, h.2.2.2.2.transN (Onto.setCell b i w x) ha⟩
theorem InJ.onto {a w w' : World} {r B C b c base g n cap : Nat} {zs : List Int} {cs ds : Array Value} (h : InJ a r B b c base g n cap zs cs ds w) (ho : Onto r w w') (hR : Rd w' r C) (hb : b ≠ r) (hc : c ≠ r) (hr : r < base) : InJ a r C b c base g n cap zs cs ds w' :=
  ⟨h.1.onto ho hb, h.2.1.onto ho hc, owns_onto h.2.2.1 ho hr, hR, h.2.2.2.2.trans ho⟩
/-- A drawn job with at least one difference, in a row of its own. -/
def SomeJob (r B : Nat) (w : World) (e : Ending) (w' : World) : Prop := ∃ (g cap : Nat) (zs : List Int) (F C Wd D Wy R A Wi : Int), e = .returned (jobV (.slice (some ⟨g, 0, none⟩) zs.length cap) F C Wd D Wy R A Wi) ∧ w'.ownsRow (w.heap.size + 1) 3 1 (.slice (some ⟨g, 0, none⟩) zs.length cap) zs.length (ints zs) ∧ 1 ≤ zs.length ∧ zs.length ≤ 6 ∧ Rd w' r (B + 30) ∧ Onto r w w'
set_option maxHeartbeats 3200000 in
theorem jSome_any (r B : Nat) (w : World) (h : Rd w r B) (hB : B ≤ 800000) : Calls Try.prog 60 #[.pointer (some ⟨r, 0, none⟩)] w (SomeJob r B w) := by
  have hr0 := h.lt
  have T0 := hidH (show JobAt (w.alloc (.cells #[.slice none 0 0, .int .i64 0, .int .i64 0, .int .i64 0, .int .i64 0, .int .i64 0, .int .i64 0, .int .i64 0, .int .i64 0] 38)) w.heap.size 38 #[.slice none 0 0, .int .i64 0, .int .i64 0, .int .i64 0, .int .i64 0, .int .i64 0, .int .i64 0, .int .i64 0, .int .i64 0] from heap_alloc_new w _)
  have R0 := hidH (h.onto ((Below.refl _ _).alloc (Nat.le_refl _) (.cells #[.slice none 0 0, .int .i64 0, .int .i64 0, .int .i64 0, .int .i64 0, .int .i64 0, .int .i64 0, .int .i64 0, .int .i64 0] 38)))
  have O0 := hidH ((Onto.refl r w).alloc (.cells #[.slice none 0 0, .int .i64 0, .int .i64 0, .int .i64 0, .int .i64 0, .int .i64 0, .int .i64 0, .int .i64 0, .int .i64 0] 38))
  have z0 : w.heap.size + 1 = (w.alloc (.cells #[.slice none 0 0, .int .i64 0, .int .i64 0, .int .i64 0, .int .i64 0, .int .i64 0, .int .i64 0, .int .i64 0, .int .i64 0] 38)).heap.size := by simp
  clear h
  go_enter Try.func60, Try.ntmps60
  go_wp2_with fail
  refine (pSome_any r _ _ R0.out (by omega)).mono ?_; rintro e w1 ⟨v, zs, rfl, hown, h1, h6, hR, hO⟩
  obtain ⟨g, cap, rfl, hgc, hcm, hgb, hgw⟩ := owns_form hown h1
  rw [← z0] at hown hgb
  have z1 := hO.size
  have T1 := hidH (T0.out.onto hO (by omega))
  have W1 := hidH hown
  have R1 := hidH hR
  have O1 := hidH (O0.out.trans hO)
  clear hown hR hO T0 R0 O0
  go_wp2_with fail
  refine (pick_any 20 r _ w1 R1.out (by omega)).mono ?_; rintro e w2 ⟨x, rfl, q0, q1, hR, hO⟩
  have z2 := hO.size
  have T2 := hidH (T1.out.onto hO (by omega))
  have W2 := hidH (owns_onto W1.out hO (by omega))
  have R2 := hidH hR
  have O2 := hidH (O1.out.trans hO)
  clear q0 q1 hR hO T1 W1 R1 O1
  go_wp2_with fail
  refine (pick_any 14 r _ w2 R2.out (by omega)).mono ?_; rintro e w3 ⟨y, rfl, q0, q1, hR, hO⟩
  have z3 := hO.size
  have T3 := hidH (T2.out.onto hO (by omega))
  have W3 := hidH (owns_onto W2.out hO (by omega))
  have R3 := hidH hR
  have O3 := hidH (O2.out.trans hO)
  clear q0 q1 hR hO T2 W2 R2 O2
  go_wp2_with fail
  refine (pick_any 4 r _ w3 R3.out (by omega)).mono ?_; rintro e w4 ⟨z, rfl, q0, q1, hR, hO⟩
  have z4 := hO.size
  have T4 := hidH (T3.out.onto hO (by omega))
  have W4 := hidH (owns_onto W3.out hO (by omega))
  have R4 := hidH hR
  have O4 := hidH (O3.out.trans hO)
  clear q0 q1 hR hO T3 W3 R3 O3
  go_wp2_with fail
  generalize wrap64 (x - 5) = F at *
  generalize wrap64 (1 + y) = C at *
  generalize wrap64 (8 + z) = Wd at *
  have K5 := hidH (show InJ w r (B + 18) w4.heap.size w.heap.size (w.heap.size + 1) g zs.length cap zs (#[.slice (some ⟨g, 0, none⟩) zs.length cap, .int .i64 F, .int .i64 C, .int .i64 Wd, .int .i64 0, .int .i64 0, .int .i64 0, .int .i64 0, .int .i64 0] : Array Value) #[.slice none 0 0, .int .i64 0, .int .i64 0, .int .i64 0, .int .i64 0, .int .i64 0, .int .i64 0, .int .i64 0, .int .i64 0] (w4.alloc (.cells #[.slice (some ⟨g, 0, none⟩) zs.length cap, .int .i64 F, .int .i64 C, .int .i64 Wd, .int .i64 0, .int .i64 0, .int .i64 0, .int .i64 0, .int .i64 0] 38)) from ⟨heap_alloc_new w4 _, heap_more T4.out _, owns_below W4.out ((Below.refl _ _).alloc (Nat.le_refl _) _), (R4.out.onto ((Below.refl _ _).alloc (Nat.le_refl _) _)).more (by omega), O4.out.alloc _⟩)
  have s5 : w4.heap.size + 1 = (w4.alloc (.cells #[.slice (some ⟨g, 0, none⟩) zs.length cap, .int .i64 F, .int .i64 C, .int .i64 Wd, .int .i64 0, .int .i64 0, .int .i64 0, .int .i64 0, .int .i64 0] 38)).heap.size := by simp
  clear T4 W4 R4 O4
  refine (pick_any 3 r _ _ K5.out.2.2.2.1 (by omega)).mono ?_; rintro e w5 ⟨d, rfl, q0, q1, hR, hO⟩
  have K6 := hidH (K5.out.onto hO hR (by omega) (by omega) (by omega))
  have s6 := hO.size
  clear K5 q0 q1 hR hO
  have c4 := K6.out.1.cell 4 _ rfl
  have f4 := K6.out.1.free 4
  have K7 := hidH (K6.out.put (by omega) (by omega) (by omega) (by omega) 4 (.int .i64 d) (#[.slice (some ⟨g, 0, none⟩) zs.length cap, .int .i64 F, .int .i64 C, .int .i64 Wd, .int .i64 d, .int .i64 0, .int .i64 0, .int .i64 0, .int .i64 0] : Array Value) rfl)
  go_wp2_with fail
  clear c4 f4 K6
  refine (pick_any 3 r _ _ K7.out.2.2.2.1 (by omega)).mono ?_; rintro e w6 ⟨e1, rfl, q0, q1, hR, hO⟩
  have K8 := hidH (K7.out.onto hO hR (by omega) (by omega) (by omega))
  have s8 := hO.size
  clear K7 q0 q1 hR hO
  have c5 := K8.out.1.cell 5 _ rfl
  have f5 := K8.out.1.free 5
  have K9 := hidH (K8.out.put (by omega) (by omega) (by omega) (by omega) 5 (.int .i64 e1) (#[.slice (some ⟨g, 0, none⟩) zs.length cap, .int .i64 F, .int .i64 C, .int .i64 Wd, .int .i64 d, .int .i64 e1, .int .i64 0, .int .i64 0, .int .i64 0] : Array Value) rfl)
  go_wp2_with fail
  clear c5 f5 K8
  refine (pick_any 6 r _ _ K9.out.2.2.2.1 (by omega)).mono ?_; rintro e w7 ⟨p, rfl, q0, q1, hR, hO⟩
  have K10 := hidH (K9.out.onto hO hR (by omega) (by omega) (by omega))
  clear K9 q0 q1 hR hO
  go_wp2_with fail
  refine (pick_any 4 r _ _ K10.out.2.2.2.1 (by omega)).mono ?_; rintro e w8 ⟨q, rfl, q0, q1, hR, hO⟩
  have K11 := hidH (K10.out.onto hO hR (by omega) (by omega) (by omega))
  clear K10 q0 q1 hR hO
  go_wp2_with fail
  refine (pick_any 5 r _ _ K11.out.2.2.2.1 (by omega)).mono ?_; rintro e w9 ⟨u, rfl, q0, q1, hR, hO⟩
  have K12 := hidH (K11.out.onto hO hR (by omega) (by omega) (by omega))
  clear K11 q0 q1 hR hO
  have c6 := K12.out.1.cell 6 _ rfl
  have f6 := K12.out.1.free 6
  have c7 := K12.out.1.cell 7 _ rfl
  have f7 := K12.out.1.free 7
  have c8 := K12.out.1.cell 8 _ rfl
  have f8 := K12.out.1.free 8
  have K13 := hidH (((K12.out.put (by omega) (by omega) (by omega) (by omega) 6 (.int .i64 (wrap64 (1 + p))) (#[.slice (some ⟨g, 0, none⟩) zs.length cap, .int .i64 F, .int .i64 C, .int .i64 Wd, .int .i64 d, .int .i64 e1, .int .i64 (wrap64 (1 + p)), .int .i64 0, .int .i64 0] : Array Value) rfl).put (by omega) (by omega) (by omega) (by omega) 7 (.int .i64 (wrap64 (1 + q))) (#[.slice (some ⟨g, 0, none⟩) zs.length cap, .int .i64 F, .int .i64 C, .int .i64 Wd, .int .i64 d, .int .i64 e1, .int .i64 (wrap64 (1 + p)), .int .i64 (wrap64 (1 + q)), .int .i64 0] : Array Value) rfl).put (by omega) (by omega) (by omega) (by omega) 8 (.int .i64 (wrap64 (7 + u))) (#[.slice (some ⟨g, 0, none⟩) zs.length cap, .int .i64 F, .int .i64 C, .int .i64 Wd, .int .i64 d, .int .i64 e1, .int .i64 (wrap64 (1 + p)), .int .i64 (wrap64 (1 + q)), .int .i64 (wrap64 (7 + u))] : Array Value) rfl)
  have SZ := hidH (job_size (.slice (some ⟨g, 0, none⟩) zs.length cap) F C Wd d e1 (wrap64 (1 + p)) (wrap64 (1 + q)) (wrap64 (7 + u)))
  unfold jobC at SZ
  go_wp2_with (first
    | (refine wpList_load_row rfl 38 _ rfl w4.heap.size rfl 38 #[.slice (some ⟨g, 0, none⟩) zs.length cap, .int .i64 F, .int .i64 C, .int .i64 Wd, .int .i64 d, .int .i64 e1, .int .i64 (wrap64 (1 + p)), .int .i64 (wrap64 (1 + q)), .int .i64 (wrap64 (7 + u))] (0, 0) _ K13.out.1 Try.underlying38 rfl SZ.out ?_)
    | (refine wpList_store_row rfl 38 _ _ rfl w.heap.size #[.slice (some ⟨g, 0, none⟩) zs.length cap, .int .i64 F, .int .i64 C, .int .i64 Wd, .int .i64 d, .int .i64 e1, .int .i64 (wrap64 (1 + p)), .int .i64 (wrap64 (1 + q)), .int .i64 (wrap64 (7 + u))] rfl rfl 38 _ K13.out.2.1 SZ.out rfl (by simp [Value.oneCell']) ?_))
  refine bodyPost_ret (results_cell_row Try.results60 _ _ w.heap.size 38 _ (0, 0) _ rfl (K13.out.2.1.setRow _) Try.underlying38 rfl SZ.out) rfl ?_
  exact ⟨g, cap, zs, F, C, Wd, d, e1, _, _, _, rfl, owns_ontoN K13.out.2.2.1 (ontoRow w.heap.size _ _) (by omega), h1, h6, (K13.out.2.2.2.1.ontoN (ontoRow w.heap.size _ _) hr0).more (by omega), K13.out.2.2.2.2.transN (ontoRow w.heap.size _ _) (Nat.le_refl _)⟩
end Go.Proofs.Ytcinhmfjnjecdaa
