/-
  The draw of a plan that is sometimes none. No conditions but that the bytes that came in can be read.
-/
import Derived.Test.YtgnoclnenhmakaaSplH
namespace Go.Proofs.Ytgnoclnenhmakaa
set_option maxRecDepth 4000
open Go.RowKit
theorem Rd.set5 {w : World} {r B b : Nat} (h : Rd w r B) (hb : r < b) (i : Nat) (v : Value) : Rd (w.setCell ⟨b, i, none⟩ v) r B := h.low ⟨rfl, rfl, rfl, by simp, fun k hk => heap_setCell_other _ _ _ _ (by show k ≠ b; omega)⟩
theorem Lies.nilOf {w : World} {lo hi n cap : Nat} {a : Option Addr} {zs : List Int} (h : Lies w lo hi (.slice a n cap) zs) : a = Option.none → cap = 0 := by
  obtain ⟨a', cap', e, _, _, h4, _⟩ := h
  injection e with e1 _ e3
  subst e1 e3
  exact h4
theorem Lies.lenOf2 {w : World} {lo hi n cap : Nat} {a : Option Addr} {zs : List Int} (h : Lies w lo hi (.slice a n cap) zs) : cap ≤ maxLen := by
  obtain ⟨a', cap', e, _, h3, _, _⟩ := h
  injection e with e1 _ e3
  subst e1 e3
  exact h3
theorem stored0 {w5 w2 : World} {r base g cap k : Nat} {c d : Int} {zs : List Int} {cs : List (Int × List Int)} (X : ApSg w5 base w5.heap.size (.slice (some ⟨g, 0, none⟩) cs.length cap) cs) (hr : r < base) (hk : cs[k]? = some (c, zs)) (hO : Onto r (w5.setCell ⟨g, k * 2, none⟩ (.int .i64 d)) w2) : LiesSg w2 w2.heap.size (.slice (some ⟨g, 0, none⟩) cs.length cap) (cs.set k (d, zs)) := by
  have hX := X
  obtain ⟨a, cap', L, H, e, h2, h3, h4, hL, h5⟩ := X
  injection e with e1 _ e3
  subst e1 e3
  obtain ⟨b, u, e', b1, b2, b3, b4, b5, c0, _, c1, _, hrow⟩ := h5 k c zs hk
  injection e' with e'
  injection e' with e'
  subst e'
  have hs6 : (w5.setCell ⟨g, k * 2, none⟩ (.int .i64 d)).heap.size = w5.heap.size := by simp
  have hgr : g ≠ r := by omega
  have hcell (i : Nat) : w2.cell? ⟨g, i, none⟩ = (w5.setCell ⟨g, k * 2, none⟩ (.int .i64 d)).cell? ⟨g, i, none⟩ := hO.cell (by rw [hs6]; exact b2) hgr
  have hA : Apart g (g + 1) w5 (w5.setCell ⟨g, k * 2, none⟩ (.int .i64 d)) := Apart.of_onto (Onto.setCell g (k * 2) w5 _) (Nat.le_refl _) (Nat.lt_succ_self _)
  refine hX.stored hr k (d, zs) ⟨u, ?_, ?_, ?_⟩ (fun i hi _ => ?_) (fun bb hb hg hbr => ?_) (by have := hO.size; omega) b2
  · rw [hcell]; exact World.cell?_setCell_same _ _ _ c0
  · rw [hcell, World.cell?_setCell_other _ _ _ _ (by intro h; injection h; omega)]; exact c1
  · exact ((hrow.apart hA (by omega)).apart (Apart.of_onto (lo := r) (hi := r + 1) hO (Nat.le_refl _) (Nat.lt_succ_self _)) (.inr (by omega))).lies.top
  · rw [hcell, World.cell?_setCell_other _ _ _ _ (by intro h; injection h; omega)]
  · rw [hO.block bb (by rw [hs6]; exact hb) hbr, heap_setCell_other _ _ _ _ hg]
theorem stored1 {w5 w2 : World} {r base g cap k : Nat} {c : Int} {zs ys : List Int} {x : Value} {cs : List (Int × List Int)} (X : ApSg w5 base w5.heap.size (.slice (some ⟨g, 0, none⟩) cs.length cap) cs) (hr : r < base) (hk : cs[k]? = some (c, zs)) (hO : Onto r (w5.setCell ⟨g, k * 2 + 1, none⟩ x) w2) (hl : Lies w2 0 w2.heap.size x ys) : LiesSg w2 w2.heap.size (.slice (some ⟨g, 0, none⟩) cs.length cap) (cs.set k (c, ys)) := by
  have hX := X
  obtain ⟨a, cap', L, H, e, h2, h3, h4, hL, h5⟩ := X
  injection e with e1 _ e3
  subst e1 e3
  obtain ⟨b, u, e', b1, b2, b3, b4, b5, c0, _, c1, _, hrow⟩ := h5 k c zs hk
  injection e' with e'
  injection e' with e'
  subst e'
  have hs6 : (w5.setCell ⟨g, k * 2 + 1, none⟩ x).heap.size = w5.heap.size := by simp
  have hgr : g ≠ r := by omega
  have hcell (i : Nat) : w2.cell? ⟨g, i, none⟩ = (w5.setCell ⟨g, k * 2 + 1, none⟩ x).cell? ⟨g, i, none⟩ := hO.cell (by rw [hs6]; exact b2) hgr
  refine hX.stored hr k (c, ys) ⟨x, ?_, ?_, hl⟩ (fun i _ hi => ?_) (fun bb hb hg hbr => ?_) (by have := hO.size; omega) b2
  · rw [hcell, World.cell?_setCell_other _ _ _ _ (by intro h; injection h; omega)]; exact c0
  · rw [hcell]; exact World.cell?_setCell_same _ _ _ c1
  · rw [hcell, World.cell?_setCell_other _ _ _ _ (by intro h; injection h; omega)]
  · rw [hO.block bb (by rw [hs6]; exact hb) hbr, heap_setCell_other _ _ _ _ hg]
theorem lies_lit {w : World} {b t : Nat} {zs : List Int} (h : w.heap[b]? = some (.cells (intC zs) t (0, 0))) (hl : zs.length ≤ 1000) : Lies w 0 w.heap.size (.slice (some ⟨b, 0, none⟩) zs.length zs.length) zs :=
  ⟨some ⟨b, 0, none⟩, zs.length, rfl, Nat.le_refl _, by unfold maxLen; omega, (fun e => by cases e), fun j z hj => ⟨b, 0, rfl, Nat.zero_le _, (Array.getElem?_eq_some_iff.1 h).1, by
    rw [Nat.zero_add]
    have hz : (intC zs)[j]? = some (.int .i64 z) := by simp [intC, hj]
    simp [World.cell?, h, hz]⟩⟩
/-- A drawn plan that is sometimes none: it can be read, whatever else is drawn. -/
def BadPlan (r B c : Nat) (w : World) (e : Ending) (w' : World) : Prop := ∃ (v : Value) (cs : List (Int × List Int)), e = .returned v ∧ (∀ w2, Onto r w' w2 → LiesSg w2 w2.heap.size v cs) ∧ cs.length ≤ 61 ∧ (∀ c zs, (c, zs) ∈ cs → zs.length ≤ 7) ∧ Rd w' r (B + 40) ∧ Below c w w'
theorem set_polys {cs : List (Int × List Int)} (h7 : ∀ c zs, (c, zs) ∈ cs → zs.length ≤ 7) (k : Nat) (d : Int) (ys : List Int) (hy : ys.length ≤ 7) : ∀ c zs, (c, zs) ∈ cs.set k (d, ys) → zs.length ≤ 7 := by
  intro c zs hm
  rcases List.mem_or_eq_of_mem_set hm with h | h
  · exact h7 c zs h
  · injection h with _ h
    rw [h]; exact hy
set_option maxHeartbeats 3200000 in
theorem bad5_any (r B base cc : Nat) (v : Value) (cs : List (Int × List Int)) (w : World) (X : ApSg w base w.heap.size v cs) (h : Rd w r B) (hB : B ≤ 800000) (hrb : r < base) (hcr : cc ≤ r) (h1 : 1 ≤ cs.length) (h61 : cs.length ≤ 61) (h7 : ∀ c zs, (c, zs) ∈ cs → zs.length ≤ 7) : Calls Try.prog 29 #[.pointer (some ⟨r, 0, none⟩), v] w (BadPlan r B cc w) := by
  have hr0 := h.lt
  have HR := hidH h
  have HX := hidH X
  have H7 := hidH h7
  obtain ⟨g, cap, _, _, rfl, hcl, hcm, _, hg1, hg2, _⟩ := X.at (by omega)
  have HCM := hidH hcm
  unfold maxLen at hcm
  clear h h7 X
  go_enter Try.func29, Try.ntmps29
  go_wp2_with fail
  refine (pick_any (cs.length : Int) r _ w HR.out (by omega)).mono ?_
  rintro e w1 ⟨i, rfl, y0, y1, hR, hO⟩
  have y2 := y1 (by omega)
  obtain ⟨k, rfl⟩ : ∃ k : Nat, i = (k : Int) := ⟨i.toNat, by omega⟩
  have hk : k < cs.length := by omega
  obtain ⟨x, hx⟩ : ∃ x, cs[k]? = some x := ⟨cs[k], List.getElem?_eq_getElem hk⟩
  obtain ⟨c, zs⟩ := x
  have HK := hidH hx
  have R1 := hidH hR
  have O1 := hidH hO
  have P1 := hidH ((HX.out.onto hO hrb).mono (Nat.le_refl _) hO.size)
  clear y0 y1 y2 hx hR hO HR HX
  go_wp2_with fail
  refine (pick_any 30 r _ w1 R1.out (by omega)).mono ?_
  rintro e w2 ⟨x, rfl, y0, y1, hR, hO⟩
  have R2 := hidH hR
  have O2 := hidH (O1.out.trans hO)
  have P2 := hidH ((P1.out.onto hO hrb).mono (Nat.le_refl _) hO.size)
  clear y0 y1 hR hO R1 O1 P1
  have hgs : g < w2.heap.size := Nat.lt_of_lt_of_le hg2 O2.out.size
  by_cases x0 : x = 0
  · subst x0
    go_wp2_with fail
    have hN := num_any w2.heap.size 0 [0, -1, 61, 50, 9223372036854775807] r _ (w2.alloc (.cells (intC [0, -1, 61, 50, 9223372036854775807]) 3)) (R2.out.onto ((Below.refl _ _).alloc (Nat.le_refl _) _)) (by omega) (by first | decide | exact Nat.succ_pos _) (by first | decide | exact (show 5 ≤ 1000 from by decide)) (ints_new _ _ _ _ R2.out.lt)
    refine hN.mono ?_
    rintro e w3 ⟨d, hz, rfl, hR, hO⟩
    have R3 := hidH hR
    have O3 := hidH (O2.out.trans (((Onto.refl _ _).alloc (.cells (intC [0, -1, 61, 50, 9223372036854775807]) 3)).trans hO))
    have hO' := ((Onto.refl r w2).alloc (.cells (intC [0, -1, 61, 50, 9223372036854775807]) 3)).trans hO
    have P3 := hidH ((P2.out.onto hO' hrb).mono (Nat.le_refl _) hO'.size)
    clear hN hz hR hO hO' R2 O2 P2
    obtain ⟨g', cap', _, _, e, _, _, _, _, _, hsg⟩ := P3.out.at (by omega)
    injection e with e1 e2 e3
    injection e1 with e1
    injection e1 with e1
    subst e1
    subst e3
    clear e2
    obtain ⟨u, _, _, _, c0, f0, _, _, _⟩ := hsg k c zs HK.out
    clear hsg
    have R4 := hidH (R3.out.set5 (b := g) (by omega) (k * 2) (.int .i64 d))
    have B4 := hidH ((O3.out.below (B := cc) hcr (by omega)).setCell (p := ⟨g, k * 2, none⟩) (by show cc ≤ g; omega) (.int .i64 d))
    go_wp2_with fail
    go_ret
    exact ⟨_, cs.set k (d, zs), rfl, fun w9 hO => stored0 P3.out hrb HK.out hO, by rw [List.length_set]; exact h61, set_polys H7.out k d zs (H7.out c zs (List.mem_of_getElem? HK.out)), R4.out.more (by omega), B4.out⟩
  have b0 : (x == 0) = false := beq_eq_false_iff_ne.2 x0
  by_cases x1 : x = 1
  · subst x1
    obtain ⟨g', cap', _, _, e, _, _, _, _, _, hsg⟩ := P2.out.at (by omega)
    injection e with e1 e2 e3
    injection e1 with e1
    injection e1 with e1
    subst e1
    subst e3
    clear e2
    obtain ⟨u, _, _, _, c0, f0, c1, f1, hrow⟩ := hsg k c zs HK.out
    obtain ⟨ua, uc, rfl⟩ := hrow.some
    have hnil := hrow.lies.nilOf
    have huc := hrow.lies.lenOf2
    have HUC := hidH huc
    unfold maxLen at huc
    clear hsg hrow c0 f0 x0 b0
    cases ua with
    | none =>
      obtain rfl := hnil rfl
      have R4 := hidH (R2.out.set5 (b := g) (by omega) (k * 2 + 1) (.slice none 0 0))
      have B4 := hidH ((O2.out.below (B := cc) hcr (by omega)).setCell (p := ⟨g, k * 2 + 1, none⟩) (by show cc ≤ g; omega) (.slice none 0 0))
      go_wp2_with fail
      go_ret
      exact ⟨_, cs.set k (c, []), rfl, fun w9 hO => stored1 P2.out hrb HK.out hO (Lies.none _ _ _ _ _ (Nat.zero_le _) (fun _ => rfl)), by rw [List.length_set]; exact h61, set_polys H7.out k c [] (by simp), R4.out.more (by omega), B4.out⟩
    | some ad =>
      have R4 := hidH (R2.out.set5 (b := g) (by omega) (k * 2 + 1) (.slice (some ad) 0 uc))
      have B4 := hidH ((O2.out.below (B := cc) hcr (by omega)).setCell (p := ⟨g, k * 2 + 1, none⟩) (by show cc ≤ g; omega) (.slice (some ad) 0 uc))
      go_wp2_with fail
      go_ret
      exact ⟨_, cs.set k (c, []), rfl, fun w9 hO => stored1 P2.out hrb HK.out hO (Lies.none _ _ _ _ _ HUC.out (fun e => by cases e)), by rw [List.length_set]; exact h61, set_polys H7.out k c [] (by simp), R4.out.more (by omega), B4.out⟩
  have b1 : (x == 1) = false := beq_eq_false_iff_ne.2 x1
  by_cases x2 : x = 2
  · subst x2
    have B4 := hidH (O2.out.below (B := cc) hcr (by omega))
    clear x0 b0 x1 b1
    go_wp2_with fail
    go_ret
    exact ⟨_, [], rfl, fun w9 hO => ⟨_, _, rfl, Nat.zero_le _, HCM.out, (fun e => by cases e), fun _ _ _ h => by simp at h⟩, by simp, (fun c ys h => by cases h), R2.out.more (by omega), B4.out⟩
  have b2 : (x == 2) = false := beq_eq_false_iff_ne.2 x2
  by_cases x3 : x = 3
  · subst x3
    have hO' := (Onto.refl r w2).alloc (.cells #[.int .i64 0, .int .i64 0, .int .i64 0, .int .i64 0, .int .i64 0, .int .i64 0, .int .i64 100000] 3)
    have O3 := hidH (O2.out.trans hO')
    have P3 := hidH ((P2.out.onto hO' hrb).mono (Nat.le_refl _) hO'.size)
    have R3 := hidH (R2.out.onto ((Below.refl _ w2).alloc (Nat.le_refl _) (.cells #[.int .i64 0, .int .i64 0, .int .i64 0, .int .i64 0, .int .i64 0, .int .i64 0, .int .i64 100000] 3)))
    have HLW := hidH (show (w2.alloc (.cells #[.int .i64 0, .int .i64 0, .int .i64 0, .int .i64 0, .int .i64 0, .int .i64 0, .int .i64 100000] 3)).heap[w2.heap.size]? = some (.cells #[.int .i64 0, .int .i64 0, .int .i64 0, .int .i64 0, .int .i64 0, .int .i64 0, .int .i64 100000] 3 (0, 0)) from heap_alloc_new w2 _)
    have HGN := hidH (show w2.heap.size ≠ r ∧ w2.heap.size ≠ g by omega)
    clear x0 b0 x1 b1 x2 b2 hO'
    obtain ⟨g', cap', _, _, e, _, _, _, _, _, hsg⟩ := P3.out.at (by omega)
    injection e with e1 e2 e3
    injection e1 with e1
    injection e1 with e1
    subst e1
    subst e3
    clear e2
    obtain ⟨u, _, _, _, c0, f0, c1, f1, _⟩ := hsg k c zs HK.out
    have R4 := hidH (R3.out.set5 (b := g) (by omega) (k * 2 + 1) (.slice (some ⟨w2.heap.size, 0, none⟩) 7 7))
    have B4 := hidH ((O3.out.below (B := cc) hcr (by omega)).setCell (p := ⟨g, k * 2 + 1, none⟩) (by show cc ≤ g; omega) (.slice (some ⟨w2.heap.size, 0, none⟩) 7 7))
    have HCM2 := hidH (show (w2.setCell ⟨g, k * 2 + 1, none⟩ (.slice (some ⟨w2.heap.size, 0, none⟩) 7 7)).alloc (.cells #[.int .i64 0, .int .i64 0, .int .i64 0, .int .i64 0, .int .i64 0, .int .i64 0, .int .i64 100000] 3) = (w2.alloc (.cells #[.int .i64 0, .int .i64 0, .int .i64 0, .int .i64 0, .int .i64 0, .int .i64 0, .int .i64 100000] 3)).setCell ⟨g, k * 2 + 1, none⟩ (.slice (some ⟨w2.heap.size, 0, none⟩) 7 7) from (World.setCell_alloc_past _ _ _ _ hgs).symm)
    clear hsg c0 f0
    go_wp2_with fail
    go_ret
    rw [HCM2.out]
    refine ⟨_, cs.set k (c, [0, 0, 0, 0, 0, 0, 100000]), rfl, fun w9 hO => stored1 P3.out hrb HK.out hO ?_, by rw [List.length_set]; exact h61, set_polys H7.out k c _ (by simp), R4.out.more (by omega), B4.out⟩
    refine lies_lit (t := 3) (zs := [0, 0, 0, 0, 0, 0, 100000]) ?_ (by decide)
    rw [hO.block _ (by simp) HGN.out.1, heap_setCell_other _ _ _ _ HGN.out.2]
    exact HLW.out
  have b3 : (x == 3) = false := beq_eq_false_iff_ne.2 x3
  have B4 := hidH (O2.out.below (B := cc) hcr (by omega))
  clear x0 x1 x2 x3
  go_wp2_with fail
  go_ret
  exact ⟨_, cs, rfl, fun w9 hO => ((P2.out.onto hO hrb).lies).mono hO.size, h61, H7.out, R2.out.more (by omega), B4.out⟩
/-- A drawn plan that comes in. -/
def DrawPl (w : World) (e : Ending) (w' : World) : Prop := ∃ (v : Value) (cs : List (Int × List Int)), e = .returned v ∧ LiesSg w' w'.heap.size v cs ∧ cs.length ≤ 61 ∧ (∀ c zs, (c, zs) ∈ cs → zs.length ≤ 7) ∧ Below w.heap.size w w'
end Go.Proofs.Ytgnoclnenhmakaa
