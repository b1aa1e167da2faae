/-
  DrawJobValid: a job that comes in. No conditions but that the bytes that came in can be read.
-/
import Derived.Test.YtcinhmfjnjecdaaJobN
namespace Go.Proofs.Ytcinhmfjnjecdaa
set_option maxRecDepth 4000
open Go.RowKit
theorem came_belowJ {w w' : World} {a : Option Addr} {len cap : Nat} (h : Came w a len cap) (hb : Below w.heap.size w w') : Came w' a len cap :=
  ⟨h.lenLe, h.capLe, fun j hj => by
    obtain ⟨b, off, x, e, hlt, x1, x2, hc⟩ := h.bytes j hj
    exact ⟨b, off, x, e, Nat.lt_of_lt_of_le hlt hb.size, x1, x2, by rw [hb.cell (p := ⟨b, off + j, none⟩) hlt]; exact hc⟩, h.ofNil⟩
theorem OntoG.below {r g B : Nat} {a b : World} (h : OntoG r g a b) (hr : B ≤ r) (hg : B ≤ g) (hB : B ≤ a.heap.size) : Below B a b :=
  ⟨h.os, h.tape, h.output, h.size, fun k hk => h.block k (by omega) (by omega) (by omega)⟩
/-- A drawn job in rows of its own. -/
def DrawJ (w : World) (e : Ending) (w' : World) : Prop := ∃ (v : Value) (zs : List Int) (F C Wd D Wy R A Wi : Int), e = .returned (jobV v F C Wd D Wy R A Wi) ∧ Row w' w.heap.size w'.heap.size v zs ∧ zs.length ≤ 8 ∧ Below w.heap.size w w'
set_option maxRecDepth 4000 in
set_option maxHeartbeats 1600000 in
theorem drawJobValid (a : Option Addr) (len cap : Nat) (w : World) (hc : Came w a len cap) (hl : len ≤ 1048576) : Calls Try.prog 46 #[.slice a len cap] w (DrawJ w) := by
  have B0 := hidH (bMore (Below.refl w.heap.size w) (.cells #[.slice none 0 0, .int .i64 0, .int .i64 0, .int .i64 0, .int .i64 0, .int .i64 0, .int .i64 0, .int .i64 0, .int .i64 0] 38))
  have T0 := hidH (show JobAt (w.alloc (.cells #[.slice none 0 0, .int .i64 0, .int .i64 0, .int .i64 0, .int .i64 0, .int .i64 0, .int .i64 0, .int .i64 0, .int .i64 0] 38)) w.heap.size 38 #[.slice none 0 0, .int .i64 0, .int .i64 0, .int .i64 0, .int .i64 0, .int .i64 0, .int .i64 0, .int .i64 0, .int .i64 0] from heap_alloc_new w _)
  have z0 : (w.alloc (.cells #[.slice none 0 0, .int .i64 0, .int .i64 0, .int .i64 0, .int .i64 0, .int .i64 0, .int .i64 0, .int .i64 0, .int .i64 0] 38)).heap.size = w.heap.size + 1 := by simp
  have HO := hidH (opened_any a len cap (w.alloc (.cells #[.slice none 0 0, .int .i64 0, .int .i64 0, .int .i64 0, .int .i64 0, .int .i64 0, .int .i64 0, .int .i64 0, .int .i64 0] 38)) (came_belowJ hc B0.out) hl)
  clear hc
  go_enter Try.func46, Try.ntmps46
  go_wp2_with fail
  refine HO.out.mono ?_; rintro e w1 ⟨rfl, hR, hB⟩
  rw [z0] at hR
  have R1 := hidH hR
  have hr1 := hR.lt
  have s1 := hB.size
  have T1 := hidH (T0.out.below hB)
  have B1 := hidH (bThen B0.out hB)
  clear hR hB HO T0 B0
  go_wp2_with fail
  refine (jSome_any (w.heap.size + 1) 0 w1 R1.out (by omega)).mono ?_; rintro e w2 ⟨g, gc, zs, F, C, Wd, D, Wy, R, A, Wi, rfl, hown, h1, h6, hR, hO⟩
  obtain ⟨g', cap', hv', hgc, hcm, hgb, hgw⟩ := owns_form hown h1
  injection hv' with hv1 hv2 hv3
  injection hv1 with hv1
  injection hv1 with hv1
  subst hv1
  subst hv3
  have R2 := hidH hR
  have W2 := hidH hown
  have s2 := hO.size
  have T2 := hidH (T1.out.onto hO (by omega))
  have B2 := hidH (B1.out.trans (hO.below (by omega) (by omega)))
  clear hR hown hO T1 B1 R1
  go_wp2_with fail
  refine (jBad_any (w.heap.size + 1) _ (w1.heap.size + 1) g gc zs F C Wd D Wy R A Wi w2 R2.out (by omega) W2.out h1 h6 (by omega) (by omega)).mono ?_; rintro e w3 ⟨v, ys, F2, C2, Wd2, D2, Wy2, R2', A2, Wi2, rfl, hrow, h8, hR, hO⟩
  have X3 := hidH hrow
  have s3 := hO.size
  have T3 := hidH (T2.out.ontoG hO (by omega) (by omega))
  have B3 := hidH (B2.out.trans (hO.below (by omega) (by omega) (by omega)))
  clear hrow hR hO T2 B2 W2 R2
  have SZ := hidH (job_size v F2 C2 Wd2 D2 Wy2 R2' A2 Wi2)
  unfold jobV
  unfold jobC at *
  go_wp2_with (refine wpList_store_row rfl 38 _ _ rfl w.heap.size #[v, .int .i64 F2, .int .i64 C2, .int .i64 Wd2, .int .i64 D2, .int .i64 Wy2, .int .i64 R2', .int .i64 A2, .int .i64 Wi2] rfl rfl 38 _ T3.out SZ.out rfl (by obtain ⟨va, vc, rfl⟩ := X3.out.lies.someJ; simp [Value.oneCell']) ?_)
  refine bodyPost_ret (results_cell_row Try.results46 _ _ w.heap.size 38 _ (0, 0) _ rfl (T3.out.setRow _) Try.underlying38 rfl SZ.out) rfl ?_
  exact ⟨v, ys, F2, C2, Wd2, D2, Wy2, R2', A2, Wi2, rfl, (X3.out.apart (Apart.of_onto (lo := w.heap.size) (hi := w.heap.size + 1) (ontoRow w.heap.size _ _) (Nat.le_refl _) (Nat.lt_succ_self _)) (.inr (by omega))).mono (by omega) (by simp [World.setRow]), h8, bRow B3.out (Nat.le_refl _) _⟩
end Go.Proofs.Ytcinhmfjnjecdaa
