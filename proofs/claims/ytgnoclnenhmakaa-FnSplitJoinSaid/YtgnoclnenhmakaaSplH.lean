/-
  The draw of a plan. No conditions.
  The draw of a plan that is sometimes none. No conditions but that the bytes that came in can be read.
-/
import Derived.Test.YtgnoclnenhmakaaSplC
import Derived.Test.YtgnoclnenhmakaaPlfV
import Derived.Test.YtgnoclnenhmakaaPlanF
namespace Go.Proofs.Ytgnoclnenhmakaa
set_option maxRecDepth 4000
open Go.RowKit
theorem ApSg.onto {w w' : World} {r l h : Nat} {v : Value} {cs : List (Int × List Int)} (X : ApSg w l h v cs) (hO : Onto r w w') (hr : r < l) : ApSg w' l h v cs := X.apart (Apart.of_onto (lo := r) (hi := r + 1) hO (Nat.le_refl _) (Nat.lt_succ_self _)) (.inr (by omega))
/-- One segment has been written anew in its place. -/
theorem ApSg.stored {w w2 : World} {r base hi g cap : Nat} {cs : List (Int × List Int)} (X : ApSg w base hi (.slice (some ⟨g, 0, none⟩) cs.length cap) cs) (hr : r < base) (k : Nat) (new : Int × List Int) (hcell : ∃ u, w2.cell? ⟨g, k * 2, none⟩ = some (.int .i64 new.1) ∧ w2.cell? ⟨g, k * 2 + 1, none⟩ = some u ∧ Lies w2 0 w2.heap.size u new.2)
    (hsame : ∀ i, i ≠ k * 2 → i ≠ k * 2 + 1 → w2.cell? ⟨g, i, none⟩ = w.cell? ⟨g, i, none⟩) (hblk : ∀ b, b < w.heap.size → b ≠ g → b ≠ r → w2.heap[b]? = w.heap[b]?) (hs : w.heap.size ≤ w2.heap.size) (hgl : g < w.heap.size) : LiesSg w2 w2.heap.size (.slice (some ⟨g, 0, none⟩) cs.length cap) (cs.set k new) := by
  obtain ⟨a, cap', L, H, e, h2, h3, h4, hL, h5⟩ := X
  injection e with e1 _ e3
  subst e1 e3
  refine ⟨some ⟨g, 0, none⟩, cap, by rw [List.length_set], by rw [List.length_set]; exact h2, h3, (fun e => by cases e), fun j c zs hj => ?_⟩
  by_cases e : j = k
  · subst e
    have hjl : j < cs.length := by have := (List.getElem?_eq_some_iff.1 hj).1; rwa [List.length_set] at this
    rw [List.getElem?_set_self hjl] at hj
    injection hj with hj
    subst hj
    obtain ⟨u, c0, c1, hl⟩ := hcell
    exact ⟨g, 0, u, rfl, by omega, by rw [Nat.zero_add]; exact c0, by rw [Nat.zero_add]; exact c1, hl⟩
  · rw [List.getElem?_set_ne (fun h => e h.symm)] at hj
    obtain ⟨b, u, e', b1, b2, b3, b4, b5, c0, _, c1, _, hrow⟩ := h5 j c zs hj
    injection e' with e'
    injection e' with e'
    subst e'
    refine ⟨g, 0, u, rfl, by omega, by rw [Nat.zero_add, hsame _ (by omega) (by omega)]; exact c0, by rw [Nat.zero_add, hsame _ (by omega) (by omega)]; exact c1, ?_⟩
    obtain ⟨ra, rc, r1, r2, r3, r4, r5⟩ := hrow.lies
    refine ⟨ra, rc, r1, r2, r3, r4, fun i z hi => ?_⟩
    obtain ⟨bb, oo, q1, q2, q3, q4⟩ := r5 i z hi
    have hb : bb < w.heap.size := cell_blk _ _ _ q4
    exact ⟨bb, oo, q1, Nat.zero_le _, by omega, by rw [World.cell?_of_block (w := w) (hblk bb hb (by omega) (by omega))]; exact q4⟩
/-- A drawn plan, in memory of its own. -/
def PlanRow (r B : Nat) (w : World) (e : Ending) (w' : World) : Prop := ∃ (v : Value) (cs : List (Int × List Int)), e = .returned v ∧ ApSg w' w.heap.size w'.heap.size v cs ∧ 1 ≤ cs.length ∧ cs.length ≤ 61 ∧ (∀ c zs, (c, zs) ∈ cs → zs.length ≤ 7) ∧ Rd w' r (B + 80) ∧ Onto r w w'
theorem greedyG_7 (zs : List Int) (d : Int) : ∀ c ys, (c, ys) ∈ greedyG zs d → ys.length ≤ 7 := by
  intro c ys h
  unfold greedyG at h
  split at h
  · exact plF_7 _ _ _ _ _ _ h
  · cases h
theorem greedyG_pos {zs : List Int} {d : Int} (h : (smallOk zs && degOk d) = true) : 1 ≤ (greedyG zs d).length := by
  rw [greedyG_len zs d h]
  rw [Bool.and_eq_true] at h
  exact few_pos _ zs (by omega) ((small_iff zs).1 h.1).1
/-- The plan of one segment that is drawn where there is no other. -/
theorem plan12_at {W : World} {h : Nat} (hq : W.heap[h + 1]? = some (.cells #[.int .i64 3, .slice (some ⟨h, 0, none⟩) 2 2] 39 (0, 0))) (hp : W.heap[h]? = some (.cells #[.int .i64 1, .int .i64 2] 3 (0, 0))) (hs : h + 2 ≤ W.heap.size) : ApSg W h W.heap.size (.slice (some ⟨h + 1, 0, none⟩) 1 1) [(3, [1, 2])] := by
  have hq0 (i : Nat) : W.frozen? ⟨h + 1, i, none⟩ = false := by simp only [World.frozen?, hq]; simp
  have hp0 (i : Nat) : W.frozen? ⟨h, i, none⟩ = false := by simp only [World.frozen?, hp]; simp
  have c0 : W.cell? ⟨h + 1, 0, none⟩ = some (.int .i64 3) := by simp only [World.cell?, hq]; rfl
  have c1 : W.cell? ⟨h + 1, 1, none⟩ = some (.slice (some ⟨h, 0, none⟩) 2 2) := by simp only [World.cell?, hq]; rfl
  have d0 : W.cell? ⟨h, 0, none⟩ = some (.int .i64 1) := by simp only [World.cell?, hp]; rfl
  have d1 : W.cell? ⟨h, 1, none⟩ = some (.int .i64 2) := by simp only [World.cell?, hp]; rfl
  refine ⟨some ⟨h + 1, 0, none⟩, 1, fun _ => h, fun _ => h + 1, rfl, Nat.le_refl _, by decide, (fun e => by cases e), fun i j hij hj => by simp at hj; omega, fun j c zs hj => ?_⟩
  have hj0 : j < 1 := (List.getElem?_eq_some_iff.1 hj).1
  obtain rfl : j = 0 := by omega
  injection hj with hj
  injection hj with e1 e2
  subst e1 e2
  refine ⟨h + 1, .slice (some ⟨h, 0, none⟩) 2 2, rfl, by omega, by omega, .inr (Nat.le_refl _), Nat.le_refl _, (show h + 1 ≤ W.heap.size by omega), c0, hq0 _, c1, hq0 _, ?_⟩
  refine ⟨some ⟨h, 0, none⟩, 2, rfl, Nat.le_refl _, by decide, (fun e => by cases e), fun i z hi => ?_⟩
  have hi2 : i < 2 := (List.getElem?_eq_some_iff.1 hi).1
  have : i = 0 ∨ i = 1 := by omega
  rcases this with rfl | rfl
  · injection hi with hi
    subst hi
    exact ⟨h, rfl, Nat.le_refl _, Nat.lt_succ_self _, d0, hp0 _⟩
  · injection hi with hi
    subst hi
    exact ⟨h, rfl, Nat.le_refl _, Nat.lt_succ_self _, d1, hp0 _⟩
theorem plan12 (w : World) : ApSg ((w.alloc (.cells #[.int .i64 1, .int .i64 2] 3)).alloc (.cells #[.int .i64 3, .slice (some ⟨w.heap.size, 0, none⟩) 2 2] 39)) w.heap.size ((w.alloc (.cells #[.int .i64 1, .int .i64 2] 3)).alloc (.cells #[.int .i64 3, .slice (some ⟨w.heap.size, 0, none⟩) 2 2] 39)).heap.size (.slice (some ⟨w.heap.size + 1, 0, none⟩) 1 1) [(3, [1, 2])] := by
  have hs : (w.alloc (.cells #[.int .i64 1, .int .i64 2] 3)).heap.size = w.heap.size + 1 := by simp
  exact plan12_at (by rw [← hs]; exact heap_alloc_new _ _) (by rw [heap_alloc_old _ _ (by omega)]; exact heap_alloc_new _ _) (by simp)
theorem splitA_pos (cs : List (Int × List Int)) (i a : Int) (h : splitB cs i a = true) : 1 ≤ (splitA cs i a).length := by
  unfold splitA
  rw [h, if_pos rfl]
  simp
  omega
set_option maxHeartbeats 1600000 in
theorem plan5_any (r B : Nat) (w : World) (h : Rd w r B) (hB : B ≤ 700000) : Calls Try.prog 30 #[.pointer (some ⟨r, 0, none⟩)] w (PlanRow r B w) := by
  have hr0 := h.lt
  have HR := hidH h
  clear h
  go_enter Try.func30, Try.ntmps30
  go_wp2_with fail
  refine (tab5_any r B w HR.out hB).mono ?_
  rintro e w1 ⟨v, zs, rfl, hrow, hz1, hz30, hR, hO⟩
  have K1 := hidH hrow
  have R1 := hidH hR
  have O1 := hidH hO
  obtain ⟨va, vc, rfl⟩ := hrow.some
  clear hrow hR hO HR
  go_wp2_with fail
  refine (pick_any 4 r _ w1 R1.out (by omega)).mono ?_
  rintro e w2 ⟨d, rfl, d0, d1, hR, hO⟩
  have R2 := hidH hR
  have O2 := hidH (O1.out.trans hO)
  have K2 := hidH (K1.out.apart (Apart.of_onto (lo := r) (hi := r + 1) hO (Nat.le_refl _) (Nat.lt_succ_self _)) (.inr (by omega)))
  clear d0 d1 hR hO R1 O1 K1
  have hg60 := greedyG_small zs d
  have HGP := hidH (fun h => greedyG_pos (zs := zs) (d := d) h)
  have HG7 := hidH (greedyG_7 zs d)
  go_wp2_with fail
  refine (sGreedyW_any _ zs d w2 _ _ K2.out.lies).mono ?_; rintro e w3 ⟨u, rfl, hr, hb⟩
  have R3 := hidH (R2.out.onto hb)
  have O3 := hidH (O2.out.trans (Onto.of_below hb))
  have P3 := hidH (hr.mono O2.out.size (Nat.le_refl _))
  clear hr hb K2 R2 O2
  generalize greedyG zs d = cs at *
  cases hok : smallOk zs && degOk d
  · clear hok HGP
    have O4 := hidH ((O3.out.alloc (.cells #[.int .i64 1, .int .i64 2] 3)).alloc (.cells #[.int .i64 3, .slice (some ⟨w3.heap.size, 0, none⟩) 2 2] 39))
    have R4 := hidH ((R3.out.onto ((Below.refl _ w3).alloc (Nat.le_refl _) (.cells #[.int .i64 1, .int .i64 2] 3))).onto ((Below.refl _ _).alloc (Nat.le_refl _) (.cells #[.int .i64 3, .slice (some ⟨w3.heap.size, 0, none⟩) 2 2] 39)))
    have P4 := hidH ((plan12 w3).mono O3.out.size (Nat.le_refl _))
    go_wp2_with fail
    go_ret
    exact ⟨_, _, rfl, P4.out, Nat.le_refl _, by decide, fun c ys h => by simp at h; rw [h.2]; decide, R4.out.more (by omega), O4.out⟩
  · have hg1 := HGP.out hok
    clear hok HGP
    obtain ⟨ua, uc, rfl, _, hum⟩ := P3.out.form
    clear hum
    go_wp2_with fail
    refine (pick_any 3 r _ w3 R3.out (by omega)).mono ?_
    rintro e w4 ⟨x, rfl, x0, x1, hR, hO⟩
    have R4 := hidH hR
    have O4 := hidH (O3.out.trans hO)
    have P4 := hidH ((P3.out.onto hO (by have := O3.out.size; omega)).mono (Nat.le_refl _) hO.size)
    clear x1 hR hO R3 O3 P3
    by_cases hx : x = 0
    · subst hx
      clear x0
      go_wp2_with fail
      refine (pick_any (cs.length : Int) r _ w4 R4.out (by omega)).mono ?_
      rintro e w5 ⟨i, rfl, y0, y1, hR, hO⟩
      have R5 := hidH hR
      have O5 := hidH (O4.out.trans hO)
      have P5 := hidH ((P4.out.onto hO hr0).mono (Nat.le_refl _) hO.size)
      clear y0 y1 hR hO R4 O4 P4
      go_wp2_with fail
      refine (pick_any 3 r _ w5 R5.out (by omega)).mono ?_
      rintro e w6 ⟨a, rfl, y0, y1, hR, hO⟩
      have y2 := y1 (by omega)
      have R6 := hidH hR
      have O6 := hidH (O5.out.trans hO)
      have P6 := hidH ((P5.out.onto hO hr0).mono (Nat.le_refl _) hO.size)
      clear y1 hR hO R5 O5 P5
      have HSP := hidH (fun m => sSplit_any (.slice ua cs.length uc) cs i m w6 _ P6.out.lies (by omega) (fun c ys h => by have := HG7.out c ys h; omega))
      go_wp2_with fail
      refine (HSP.out _).mono ?_; rintro e w7 ⟨s, rfl, hr, hb⟩
      have hsl := splitA_len cs i (1 + a)
      have HSP1 := hidH (splitA_pos cs i (1 + a))
      have R7 := hidH (R6.out.onto hb)
      have O7 := hidH (O6.out.trans (Onto.of_below hb))
      have P7 := hidH ((P6.out.below hb).mono (Nat.le_refl _) hb.size)
      have S7 := hidH (hr.mono O6.out.size (Nat.le_refl _))
      obtain ⟨hsl1, hsl2⟩ := hsl
      have HS2 := hidH hsl2
      clear hr hb R6 O6 P6 HSP hsl2
      generalize splitA cs i (1 + a) = ds at *
      cases hsb : splitB cs i (1 + a)
      · clear HSP1 hsb
        go_wp2_with fail
        go_ret
        exact ⟨_, cs, rfl, P7.out, hg1, by omega, HG7.out, R7.out.more (by omega), O7.out⟩
      · have hs1 := HSP1.out hsb
        clear hsb
        obtain ⟨sa, sc, rfl, _, hsm⟩ := S7.out.form
        clear hsm
        go_wp2_with fail
        go_ret
        exact ⟨_, ds, rfl, S7.out, hs1, hsl1, HS2.out, R7.out.more (by omega), O7.out⟩
    · have hx2 : (x == 0) = false := beq_eq_false_iff_ne.2 hx
      clear hx
      go_wp2_with fail
      go_ret
      exact ⟨_, cs, rfl, P4.out, hg1, by omega, HG7.out, R4.out.more (by omega), O4.out⟩
end Go.Proofs.Ytgnoclnenhmakaa
namespace Go.Proofs.Ytgnoclnenhmakaa
set_option maxRecDepth 4000
open Go.RowKit
theorem Rd.set5 {w : World} {r B b : Nat} (h : Rd w r B) (hb : r < b) (i : Nat) (v : Value) : Rd (w.setCell ⟨b, i, none⟩ v) r B := h.low ⟨rfl, rfl, rfl, by simp, fun k hk => heap_setCell_other _ _ _ _ (by show k ≠ b; omega)⟩
theorem Lies.nilOf {w : World} {lo hi n cap : Nat} {a : Option Addr} {zs : List Int} (h : Lies w lo hi (.slice a n cap) zs) : a = Option.none → cap = 0 := by
  obtain ⟨a', cap', e, _, _, h4, _⟩ := h
  injection e with e1 _ e3
  subst e1 e3
  exact h4
theorem Lies.lenOf2 {w : World} {lo hi n cap : Nat} {a : Option Addr} {zs : List Int} (h : Lies w lo hi (.slice a n cap) zs) : cap ≤ maxLen := by
  obtain ⟨a', cap', e, _, h3, _, _⟩ := h
  injection e with e1 _ e3
  subst e1 e3
  exact h3
theorem stored0 {w5 w2 : World} {r base g cap k : Nat} {c d : Int} {zs : List Int} {cs : List (Int × List Int)} (X : ApSg w5 base w5.heap.size (.slice (some ⟨g, 0, none⟩) cs.length cap) cs) (hr : r < base) (hk : cs[k]? = some (c, zs)) (hO : Onto r (w5.setCell ⟨g, k * 2, none⟩ (.int .i64 d)) w2) : LiesSg w2 w2.heap.size (.slice (some ⟨g, 0, none⟩) cs.length cap) (cs.set k (d, zs)) := by
  have hX := X
  obtain ⟨a, cap', L, H, e, h2, h3, h4, hL, h5⟩ := X
  injection e with e1 _ e3
  subst e1 e3
  obtain ⟨b, u, e', b1, b2, b3, b4, b5, c0, _, c1, _, hrow⟩ := h5 k c zs hk
  injection e' with e'
  injection e' with e'
  subst e'
  have hs6 : (w5.setCell ⟨g, k * 2, none⟩ (.int .i64 d)).heap.size = w5.heap.size := by simp
  have hgr : g ≠ r := by omega
  have hcell (i : Nat) : w2.cell? ⟨g, i, none⟩ = (w5.setCell ⟨g, k * 2, none⟩ (.int .i64 d)).cell? ⟨g, i, none⟩ := hO.cell (by rw [hs6]; exact b2) hgr
  have hA : Apart g (g + 1) w5 (w5.setCell ⟨g, k * 2, none⟩ (.int .i64 d)) := Apart.of_onto (Onto.setCell g (k * 2) w5 _) (Nat.le_refl _) (Nat.lt_succ_self _)
  refine hX.stored hr k (d, zs) ⟨u, ?_, ?_, ?_⟩ (fun i hi _ => ?_) (fun bb hb hg hbr => ?_) (by have := hO.size; omega) b2
  · rw [hcell]; exact World.cell?_setCell_same _ _ _ c0
  · rw [hcell, World.cell?_setCell_other _ _ _ _ (by intro h; injection h; omega)]; exact c1
  · exact ((hrow.apart hA (by omega)).apart (Apart.of_onto (lo := r) (hi := r + 1) hO (Nat.le_refl _) (Nat.lt_succ_self _)) (.inr (by omega))).lies.top
  · rw [hcell, World.cell?_setCell_other _ _ _ _ (by intro h; injection h; omega)]
  · rw [hO.block bb (by rw [hs6]; exact hb) hbr, heap_setCell_other _ _ _ _ hg]
theorem stored1 {w5 w2 : World} {r base g cap k : Nat} {c : Int} {zs ys : List Int} {x : Value} {cs : List (Int × List Int)} (X : ApSg w5 base w5.heap.size (.slice (some ⟨g, 0, none⟩) cs.length cap) cs) (hr : r < base) (hk : cs[k]? = some (c, zs)) (hO : Onto r (w5.setCell ⟨g, k * 2 + 1, none⟩ x) w2) (hl : Lies w2 0 w2.heap.size x ys) : LiesSg w2 w2.heap.size (.slice (some ⟨g, 0, none⟩) cs.length cap) (cs.set k (c, ys)) := by
  have hX := X
  obtain ⟨a, cap', L, H, e, h2, h3, h4, hL, h5⟩ := X
  injection e with e1 _ e3
  subst e1 e3
  obtain ⟨b, u, e', b1, b2, b3, b4, b5, c0, _, c1, _, hrow⟩ := h5 k c zs hk
  injection e' with e'
  injection e' with e'
  subst e'
  have hs6 : (w5.setCell ⟨g, k * 2 + 1, none⟩ x).heap.size = w5.heap.size := by simp
  have hgr : g ≠ r := by omega
  have hcell (i : Nat) : w2.cell? ⟨g, i, none⟩ = (w5.setCell ⟨g, k * 2 + 1, none⟩ x).cell? ⟨g, i, none⟩ := hO.cell (by rw [hs6]; exact b2) hgr
  refine hX.stored hr k (c, ys) ⟨x, ?_, ?_, hl⟩ (fun i _ hi => ?_) (fun bb hb hg hbr => ?_) (by have := hO.size; omega) b2
  · rw [hcell, World.cell?_setCell_other _ _ _ _ (by intro h; injection h; omega)]; exact c0
  · rw [hcell]; exact World.cell?_setCell_same _ _ _ c1
  · rw [hcell, World.cell?_setCell_other _ _ _ _ (by intro h; injection h; omega)]
  · rw [hO.block bb (by rw [hs6]; exact hb) hbr, heap_setCell_other _ _ _ _ hg]
theorem lies_lit {w : World} {b t : Nat} {zs : List Int} (h : w.heap[b]? = some (.cells (intC zs) t (0, 0))) (hl : zs.length ≤ 1000) : Lies w 0 w.heap.size (.slice (some ⟨b, 0, none⟩) zs.length zs.length) zs :=
  ⟨some ⟨b, 0, none⟩, zs.length, rfl, Nat.le_refl _, by unfold maxLen; omega, (fun e => by cases e), fun j z hj => ⟨b, 0, rfl, Nat.zero_le _, (Array.getElem?_eq_some_iff.1 h).1, by
    rw [Nat.zero_add]
    have hz : (intC zs)[j]? = some (.int .i64 z) := by simp [intC, hj]
    simp [World.cell?, h, hz]⟩⟩
/-- A drawn plan that is sometimes none: it can be read, whatever else is drawn. -/
def BadPlan (r B c : Nat) (w : World) (e : Ending) (w' : World) : Prop := ∃ (v : Value) (cs : List (Int × List Int)), e = .returned v ∧ (∀ w2, Onto r w' w2 → LiesSg w2 w2.heap.size v cs) ∧ cs.length ≤ 61 ∧ (∀ c zs, (c, zs) ∈ cs → zs.length ≤ 7) ∧ Rd w' r (B + 40) ∧ Below c w w'
theorem set_polys {cs : List (Int × List Int)} (h7 : ∀ c zs, (c, zs) ∈ cs → zs.length ≤ 7) (k : Nat) (d : Int) (ys : List Int) (hy : ys.length ≤ 7) : ∀ c zs, (c, zs) ∈ cs.set k (d, ys) → zs.length ≤ 7 := by
  intro c zs hm
  rcases List.mem_or_eq_of_mem_set hm with h | h
  · exact h7 c zs h
  · injection h with _ h
    rw [h]; exact hy
set_option maxHeartbeats 3200000 in
theorem bad5_any (r B base cc : Nat) (v : Value) (cs : List (Int × List Int)) (w : World) (X : ApSg w base w.heap.size v cs) (h : Rd w r B) (hB : B ≤ 800000) (hrb : r < base) (hcr : cc ≤ r) (h1 : 1 ≤ cs.length) (h61 : cs.length ≤ 61) (h7 : ∀ c zs, (c, zs) ∈ cs → zs.length ≤ 7) : Calls Try.prog 29 #[.pointer (some ⟨r, 0, none⟩), v] w (BadPlan r B cc w) := by
  have hr0 := h.lt
  have HR := hidH h
  have HX := hidH X
  have H7 := hidH h7
  obtain ⟨g, cap, _, _, rfl, hcl, hcm, _, hg1, hg2, _⟩ := X.at (by omega)
  have HCM := hidH hcm
  unfold maxLen at hcm
  clear h h7 X
  go_enter Try.func29, Try.ntmps29
  go_wp2_with fail
  refine (pick_any (cs.length : Int) r _ w HR.out (by omega)).mono ?_
  rintro e w1 ⟨i, rfl, y0, y1, hR, hO⟩
  have y2 := y1 (by omega)
  obtain ⟨k, rfl⟩ : ∃ k : Nat, i = (k : Int) := ⟨i.toNat, by omega⟩
  have hk : k < cs.length := by omega
  obtain ⟨x, hx⟩ : ∃ x, cs[k]? = some x := ⟨cs[k], List.getElem?_eq_getElem hk⟩
  obtain ⟨c, zs⟩ := x
  have HK := hidH hx
  have R1 := hidH hR
  have O1 := hidH hO
  have P1 := hidH ((HX.out.onto hO hrb).mono (Nat.le_refl _) hO.size)
  clear y0 y1 y2 hx hR hO HR HX
  go_wp2_with fail
  refine (pick_any 30 r _ w1 R1.out (by omega)).mono ?_
  rintro e w2 ⟨x, rfl, y0, y1, hR, hO⟩
  have R2 := hidH hR
  have O2 := hidH (O1.out.trans hO)
  have P2 := hidH ((P1.out.onto hO hrb).mono (Nat.le_refl _) hO.size)
  clear y0 y1 hR hO R1 O1 P1
  have hgs : g < w2.heap.size := Nat.lt_of_lt_of_le hg2 O2.out.size
  by_cases x0 : x = 0
  · subst x0
    go_wp2_with fail
    have hN := num_any w2.heap.size 0 [0, -1, 61, 50, 9223372036854775807] r _ (w2.alloc (.cells (intC [0, -1, 61, 50, 9223372036854775807]) 3)) (R2.out.onto ((Below.refl _ _).alloc (Nat.le_refl _) _)) (by omega) (by first | decide | exact Nat.succ_pos _) (by first | decide | exact (show 5 ≤ 1000 from by decide)) (ints_new _ _ _ _ R2.out.lt)
    refine hN.mono ?_
    rintro e w3 ⟨d, hz, rfl, hR, hO⟩
    have R3 := hidH hR
    have O3 := hidH (O2.out.trans (((Onto.refl _ _).alloc (.cells (intC [0, -1, 61, 50, 9223372036854775807]) 3)).trans hO))
    have hO' := ((Onto.refl r w2).alloc (.cells (intC [0, -1, 61, 50, 9223372036854775807]) 3)).trans hO
    have P3 := hidH ((P2.out.onto hO' hrb).mono (Nat.le_refl _) hO'.size)
    clear hN hz hR hO hO' R2 O2 P2
    obtain ⟨g', cap', _, _, e, _, _, _, _, _, hsg⟩ := P3.out.at (by omega)
    injection e with e1 e2 e3
    injection e1 with e1
    injection e1 with e1
    subst e1
    subst e3
    clear e2
    obtain ⟨u, _, _, _, c0, f0, _, _, _⟩ := hsg k c zs HK.out
    clear hsg
    have R4 := hidH (R3.out.set5 (b := g) (by omega) (k * 2) (.int .i64 d))
    have B4 := hidH ((O3.out.below (B := cc) hcr (by omega)).setCell (p := ⟨g, k * 2, none⟩) (by show cc ≤ g; omega) (.int .i64 d))
    go_wp2_with fail
    go_ret
    exact ⟨_, cs.set k (d, zs), rfl, fun w9 hO => stored0 P3.out hrb HK.out hO, by rw [List.length_set]; exact h61, set_polys H7.out k d zs (H7.out c zs (List.mem_of_getElem? HK.out)), R4.out.more (by omega), B4.out⟩
  have b0 : (x == 0) = false := beq_eq_false_iff_ne.2 x0
  by_cases x1 : x = 1
  · subst x1
    obtain ⟨g', cap', _, _, e, _, _, _, _, _, hsg⟩ := P2.out.at (by omega)
    injection e with e1 e2 e3
    injection e1 with e1
    injection e1 with e1
    subst e1
    subst e3
    clear e2
    obtain ⟨u, _, _, _, c0, f0, c1, f1, hrow⟩ := hsg k c zs HK.out
    obtain ⟨ua, uc, rfl⟩ := hrow.some
    have hnil := hrow.lies.nilOf
    have huc := hrow.lies.lenOf2
    have HUC := hidH huc
    unfold maxLen at huc
    clear hsg hrow c0 f0 x0 b0
    cases ua with
    | none =>
      obtain rfl := hnil rfl
      have R4 := hidH (R2.out.set5 (b := g) (by omega) (k * 2 + 1) (.slice none 0 0))
      have B4 := hidH ((O2.out.below (B := cc) hcr (by omega)).setCell (p := ⟨g, k * 2 + 1, none⟩) (by show cc ≤ g; omega) (.slice none 0 0))
      go_wp2_with fail
      go_ret
      exact ⟨_, cs.set k (c, []), rfl, fun w9 hO => stored1 P2.out hrb HK.out hO (Lies.none _ _ _ _ _ (Nat.zero_le _) (fun _ => rfl)), by rw [List.length_set]; exact h61, set_polys H7.out k c [] (by simp), R4.out.more (by omega), B4.out⟩
    | some ad =>
      have R4 := hidH (R2.out.set5 (b := g) (by omega) (k * 2 + 1) (.slice (some ad) 0 uc))
      have B4 := hidH ((O2.out.below (B := cc) hcr (by omega)).setCell (p := ⟨g, k * 2 + 1, none⟩) (by show cc ≤ g; omega) (.slice (some ad) 0 uc))
      go_wp2_with fail
      go_ret
      exact ⟨_, cs.set k (c, []), rfl, fun w9 hO => stored1 P2.out hrb HK.out hO (Lies.none _ _ _ _ _ HUC.out (fun e => by cases e)), by rw [List.length_set]; exact h61, set_polys H7.out k c [] (by simp), R4.out.more (by omega), B4.out⟩
  have b1 : (x == 1) = false := beq_eq_false_iff_ne.2 x1
  by_cases x2 : x = 2
  · subst x2
    have B4 := hidH (O2.out.below (B := cc) hcr (by omega))
    clear x0 b0 x1 b1
    go_wp2_with fail
    go_ret
    exact ⟨_, [], rfl, fun w9 hO => ⟨_, _, rfl, Nat.zero_le _, HCM.out, (fun e => by cases e), fun _ _ _ h => by simp at h⟩, by simp, (fun c ys h => by cases h), R2.out.more (by omega), B4.out⟩
  have b2 : (x == 2) = false := beq_eq_false_iff_ne.2 x2
  by_cases x3 : x = 3
  · subst x3
    have hO' := (Onto.refl r w2).alloc (.cells #[.int .i64 0, .int .i64 0, .int .i64 0, .int .i64 0, .int .i64 0, .int .i64 0, .int .i64 100000] 3)
    have O3 := hidH (O2.out.trans hO')
    have P3 := hidH ((P2.out.onto hO' hrb).mono (Nat.le_refl _) hO'.size)
    have R3 := hidH (R2.out.onto ((Below.refl _ w2).alloc (Nat.le_refl _) (.cells #[.int .i64 0, .int .i64 0, .int .i64 0, .int .i64 0, .int .i64 0, .int .i64 0, .int .i64 100000] 3)))
    have HLW := hidH (show (w2.alloc (.cells #[.int .i64 0, .int .i64 0, .int .i64 0, .int .i64 0, .int .i64 0, .int .i64 0, .int .i64 100000] 3)).heap[w2.heap.size]? = some (.cells #[.int .i64 0, .int .i64 0, .int .i64 0, .int .i64 0, .int .i64 0, .int .i64 0, .int .i64 100000] 3 (0, 0)) from heap_alloc_new w2 _)
    have HGN := hidH (show w2.heap.size ≠ r ∧ w2.heap.size ≠ g by omega)
    clear x0 b0 x1 b1 x2 b2 hO'
    obtain ⟨g', cap', _, _, e, _, _, _, _, _, hsg⟩ := P3.out.at (by omega)
    injection e with e1 e2 e3
    injection e1 with e1
    injection e1 with e1
    subst e1
    subst e3
    clear e2
    obtain ⟨u, _, _, _, c0, f0, c1, f1, _⟩ := hsg k c zs HK.out
    have R4 := hidH (R3.out.set5 (b := g) (by omega) (k * 2 + 1) (.slice (some ⟨w2.heap.size, 0, none⟩) 7 7))
    have B4 := hidH ((O3.out.below (B := cc) hcr (by omega)).setCell (p := ⟨g, k * 2 + 1, none⟩) (by show cc ≤ g; omega) (.slice (some ⟨w2.heap.size, 0, none⟩) 7 7))
    have HCM2 := hidH (show (w2.setCell ⟨g, k * 2 + 1, none⟩ (.slice (some ⟨w2.heap.size, 0, none⟩) 7 7)).alloc (.cells #[.int .i64 0, .int .i64 0, .int .i64 0, .int .i64 0, .int .i64 0, .int .i64 0, .int .i64 100000] 3) = (w2.alloc (.cells #[.int .i64 0, .int .i64 0, .int .i64 0, .int .i64 0, .int .i64 0, .int .i64 0, .int .i64 100000] 3)).setCell ⟨g, k * 2 + 1, none⟩ (.slice (some ⟨w2.heap.size, 0, none⟩) 7 7) from (World.setCell_alloc_past _ _ _ _ hgs).symm)
    clear hsg c0 f0
    go_wp2_with fail
    go_ret
    rw [HCM2.out]
    refine ⟨_, cs.set k (c, [0, 0, 0, 0, 0, 0, 100000]), rfl, fun w9 hO => stored1 P3.out hrb HK.out hO ?_, by rw [List.length_set]; exact h61, set_polys H7.out k c _ (by simp), R4.out.more (by omega), B4.out⟩
    refine lies_lit (t := 3) (zs := [0, 0, 0, 0, 0, 0, 100000]) ?_ (by decide)
    rw [hO.block _ (by simp) HGN.out.1, heap_setCell_other _ _ _ _ HGN.out.2]
    exact HLW.out
  have b3 : (x == 3) = false := beq_eq_false_iff_ne.2 x3
  have B4 := hidH (O2.out.below (B := cc) hcr (by omega))
  clear x0 x1 x2 x3
  go_wp2_with fail
  go_ret
  exact ⟨_, cs, rfl, fun w9 hO => ((P2.out.onto hO hrb).lies).mono hO.size, h61, H7.out, R2.out.more (by omega), B4.out⟩
/-- A drawn plan that comes in. -/
def DrawPl (w : World) (e : Ending) (w' : World) : Prop := ∃ (v : Value) (cs : List (Int × List Int)), e = .returned v ∧ LiesSg w' w'.heap.size v cs ∧ cs.length ≤ 61 ∧ (∀ c zs, (c, zs) ∈ cs → zs.length ≤ 7) ∧ Below w.heap.size w w'
end Go.Proofs.Ytgnoclnenhmakaa
