/-
  The search of all schedules: what it has in memory, and how a better schedule is kept. No conditions.
-/
import Derived.Test.YtcinhmfjnjecdaaDskE
import Derived.Lib.SliceRun
import Derived.Defers
namespace Go.Proofs.Ytcinhmfjnjecdaa
set_option maxRecDepth 4000
open Go.RowKit
/-- One schedule is compared with the best one so far. -/
def keepB (T G : List Int) (s : Int × List Int) : Int × List Int := if mostL (loadsL T G 3) < s.1 then (mostL (loadsL T G 3), G) else s
/-- All schedules with a given beginning, one after the other. -/
def searchF (T : List Int) (m : Nat) : Nat → List Int → Int × List Int → Int × List Int
  | 0, pre, s => keepB T pre s
  | r + 1, pre, s => (List.range m).foldl (fun s (e : Nat) => searchF T m r (pre ++ [(e : Int)]) s) s
theorem range_step {α : Type} (f : α → Nat → α) (s : α) (e : Nat) : (List.range (e + 1)).foldl f s = f ((List.range e).foldl f s) e := by
  rw [List.range_succ, List.foldl_append]; rfl
theorem keepB_parts (T G : List Int) (s : Int × List Int) (n : Nat) (hG : G.length = n) (hs : s.2.length ≤ n) : (keepB T G s).2.length ≤ n := by
  unfold keepB; split
  · exact Nat.le_of_eq hG
  · exact hs
/-- What a search has in memory: block b the search, block g the schedule that it tries. -/
structure Srch (w : World) (b g : Nat) (v0 : Value) (T : List Int) (m : Nat) (L G : List Int) (sp : Int) (bl : List Int) : Prop where
  lt : g < b
  c0 : w.cell? ⟨b, 0, none⟩ = some v0
  c1 : w.cell? ⟨b, 1, none⟩ = some (.int .i64 (m : Int))
  books : At3 w b 2 L
  c5 : w.cell? ⟨b, 5, none⟩ = some (.slice (some ⟨g, 0, none⟩) T.length T.length)
  given : Blk w g G
  best : ∃ v, w.cell? ⟨b, 6, none⟩ = some v ∧ Row w (b + 1) w.heap.size v bl
  c7 : w.cell? ⟨b, 7, none⟩ = some (.int .i64 sp)
  f6 : w.frozen? ⟨b, 6, none⟩ = false
  f7 : w.frozen? ⟨b, 7, none⟩ = false
  len : G.length = T.length
theorem Srch.size {w : World} {b g : Nat} {v0 : Value} {T L G bl : List Int} {m : Nat} {sp : Int} (h : Srch w b g v0 T m L G sp bl) : b < w.heap.size := h.books.lt
theorem Srch.below {w w' : World} {b g : Nat} {v0 : Value} {T L G bl : List Int} {m : Nat} {sp : Int} (h : Srch w b g v0 T m L G sp bl) (hb : Below w.heap.size w w') : Srch w' b g v0 T m L G sp bl := by
  have hk := hb.block b h.size
  have hc : ∀ o, w'.cell? ⟨b, o, none⟩ = w.cell? ⟨b, o, none⟩ := fun o => World.cell?_of_block (w := w) hk
  have hf : ∀ o, w'.frozen? ⟨b, o, none⟩ = w.frozen? ⟨b, o, none⟩ := fun o => World.frozen?_of_block (w := w) hk
  obtain ⟨v, hv, hr⟩ := h.best
  exact ⟨h.lt, by rw [hc]; exact h.c0, by rw [hc]; exact h.c1, h.books.below hb h.size hb.size, by rw [hc]; exact h.c5, h.given.below hb, ⟨v, by rw [hc]; exact hv, (hr.below hb).mono (Nat.le_refl _) hb.size⟩, by rw [hc]; exact h.c7, by rw [hf]; exact h.f6, by rw [hf]; exact h.f7, h.len⟩
theorem Srch.drewN {w : World} {b g : Nat} {v0 : Value} {T L G bl : List Int} {m : Nat} {sp : Int} (h : Srch w b g v0 T m L G sp bl) (q : Nat) : Srch (w.drewN q) b g v0 T m L G sp bl :=
  h.below (below_drewN (Below.refl _ _) q)
theorem row_setCell {w : World} {lo hi b o : Nat} {v x : Value} {zs : List Int} (H : Row w lo hi v zs) (hb : b < lo) : Row (w.setCell ⟨b, o, none⟩ x) lo hi v zs := by
  obtain ⟨a, cap, h1, h2, h3, h4, h5⟩ := H
  refine ⟨a, cap, h1, h2, h3, h4, fun j z hj => ?_⟩
  obtain ⟨c, e, hx, hy, hc, hf⟩ := h5 j z hj
  refine ⟨c, e, hx, hy, ?_, by simpa using hf⟩
  rw [World.cell?_setCell_other _ _ _ _ (by intro h; injection h; omega)]; exact hc
/-- A time is booked. -/
theorem Srch.book {w : World} {b g : Nat} {v0 : Value} {T L G bl : List Int} {m : Nat} {sp : Int} (h : Srch w b g v0 T m L G sp bl) (k : Nat) (x : Int) (hk : k < 3) : Srch (w.setCell ⟨b, 2 + k, none⟩ (.int .i64 x)) b g v0 T m (L.set k x) G sp bl := by
  have hlt := h.lt
  have hc : ∀ o, o ≠ 2 + k → (w.setCell ⟨b, 2 + k, none⟩ (.int .i64 x)).cell? ⟨b, o, none⟩ = w.cell? ⟨b, o, none⟩ := fun o ho => World.cell?_setCell_other _ _ _ _ (by intro h; injection h; omega)
  obtain ⟨v, hv, hr⟩ := h.best
  exact ⟨h.lt, by rw [hc 0 (by omega)]; exact h.c0, by rw [hc 1 (by omega)]; exact h.c1, h.books.set k x, by rw [hc 5 (by omega)]; exact h.c5, blk_other h.given _ _ _ (by omega), ⟨v, by rw [hc 6 (by omega)]; exact hv, by simpa [World.setCell] using row_setCell (o := 2 + k) (x := .int .i64 x) hr (Nat.lt_succ_self b)⟩, by rw [hc 7 (by omega)]; exact h.c7, by simpa using h.f6, by simpa using h.f7, h.len⟩
/-- An engine is put down for a time. -/
theorem Srch.give {w : World} {b g : Nat} {v0 : Value} {T L G bl : List Int} {m : Nat} {sp : Int} (h : Srch w b g v0 T m L G sp bl) (k : Nat) (x : Int) : Srch (w.setCell ⟨g, k, none⟩ (.int .i64 x)) b g v0 T m L (G.set k x) sp bl := by
  have hlt := h.lt
  have hc : ∀ o, (w.setCell ⟨g, k, none⟩ (.int .i64 x)).cell? ⟨b, o, none⟩ = w.cell? ⟨b, o, none⟩ := fun o => World.cell?_setCell_other _ _ _ _ (by intro h; injection h; omega)
  obtain ⟨v, hv, hr⟩ := h.best
  exact ⟨h.lt, by rw [hc]; exact h.c0, by rw [hc]; exact h.c1, h.books.other _ _ _ (Or.inl (by omega)), by rw [hc]; exact h.c5, h.given.set k x, ⟨v, by rw [hc]; exact hv, by simpa [World.setCell] using row_setCell (o := k) (x := .int .i64 x) hr (by omega)⟩, by rw [hc]; exact h.c7, by simpa using h.f6, by simpa using h.f7, by rw [List.length_set]; exact h.len⟩
/-- A better schedule is kept. -/
theorem Srch.kept {w : World} {b g : Nat} {v0 v1 : Value} {T L G bl bl1 : List Int} {m : Nat} {sp sp1 : Int} (h : Srch w b g v0 T m L G sp bl) (hr : Row w (b + 1) w.heap.size v1 bl1) : Srch ((w.setCell ⟨b, 6, none⟩ v1).setCell ⟨b, 7, none⟩ (.int .i64 sp1)) b g v0 T m L G sp1 bl1 := by
  have hlt := h.lt
  have hc : ∀ o, o ≠ 6 → o ≠ 7 → ((w.setCell ⟨b, 6, none⟩ v1).setCell ⟨b, 7, none⟩ (.int .i64 sp1)).cell? ⟨b, o, none⟩ = w.cell? ⟨b, o, none⟩ := fun o h6 h7 => by
    rw [World.cell?_setCell_other _ _ _ _ (by intro h; injection h; omega), World.cell?_setCell_other _ _ _ _ (by intro h; injection h; omega)]
  obtain ⟨v, hv, _⟩ := h.best
  have e6 : (w.setCell ⟨b, 6, none⟩ v1).cell? ⟨b, 6, none⟩ = some v1 := World.cell?_setCell_same _ _ _ hv
  have e7 : (w.setCell ⟨b, 6, none⟩ v1).cell? ⟨b, 7, none⟩ = some (.int .i64 sp) := by rw [World.cell?_setCell_other _ _ _ _ (by intro h; injection h; omega)]; exact h.c7
  refine ⟨h.lt, by rw [hc 0 (by omega) (by omega)]; exact h.c0, by rw [hc 1 (by omega) (by omega)]; exact h.c1, (h.books.other _ _ _ (Or.inr (Or.inr (by omega)))).other _ _ _ (Or.inr (Or.inr (by omega))), by rw [hc 5 (by omega) (by omega)]; exact h.c5, blk_other (blk_other h.given _ _ _ (by omega)) _ _ _ (by omega), ⟨v1, ?_, ?_⟩, World.cell?_setCell_same _ _ _ e7, by simpa using h.f6, by simpa using h.f7, h.len⟩
  · rw [World.cell?_setCell_other _ _ _ _ (by intro h; injection h; omega)]; exact e6
  · have := row_setCell (o := 7) (x := .int .i64 sp1) (row_setCell (o := 6) (x := v1) hr (Nat.lt_succ_self b)) (Nat.lt_succ_self b)
    simpa [World.setCell] using this
set_option maxHeartbeats 800000 in
theorem cloneB_any (b n cap : Nat) (zs : List Int) (w : World) (hB : Blk w b zs) (hl : zs.length = n) (hn : n ≤ 1048576) : Calls Try.prog 76 #[.slice (some ⟨b, 0, none⟩) n cap] w (NewRow zs w) := by
  have hcell : ∀ (j : Nat) u, (ints zs)[j]? = some u → (w.alloc (.cells #[] 3)).cell? ((⟨b, 0, none⟩ : Addr).add j) = some u := fun j u hj => by
    unfold ints at hj
    rw [List.getElem?_map] at hj
    obtain ⟨z, hz, rfl⟩ := Option.map_eq_some_iff.1 hj
    rw [show (⟨b, 0, none⟩ : Addr).add j = ⟨b, j, none⟩ by simp [Addr.add]; omega]
    rw [World.cell?_alloc_past _ _ _ hB.1]
    exact (hB.2 j z hz).1
  obtain ⟨i0, hi, hz0, hz1, hz2⟩ := info_parts infoInt
  have q22 : ∀ (w : World) (a : Option Addr) (n c n' c' : Nat), (binOp .eql 23 (.slice a n c) (.slice none n' c')).run Try.prog w = .ok (.bool a.isNone) w := fun w a n c n' c' => Lib.run_eql_slice_nil w _ _ a n c n' c' Try.underlying23
  have HC := hidH hcell
  have HO := hidH (oneCells zs)
  clear hcell
  go_enter Try.func76, Try.ntmps76
  go_wp2_with (at_builtin; refine wpList_append_own _ rfl _ _ 23 rfl w.heap.size 3 i0 (.int .i64 0) 1 8 Try.underlying23 hi hz0 hz1 hz2 rfl (by decide) _ _ _ rfl (World.ownsRow_made w #[] 0 (Nat.le_refl _) (Nat.zero_le _) rfl) ⟨b, 0, none⟩ n cap (ints zs) rfl ?qc1 ?qc2 HO.out ?qc4 ?qc5 ?qc6 ?_)
  case qc1 => rw [ints_length, Nat.mul_one]; exact hl
  case qc2 => exact HC.out
  case qc4 => unfold maxLen; omega
  case qc5 => omega
  case qc6 => simp
  intro v' w1 hown hgrow hnil
  have HR := hidH hown
  have HG := hidH hgrow
  clear hown hgrow hnil
  go_wp2
  go_ret
  exact ⟨v', rfl, (row_of_owns HR.out).1, ((Below.refl _ w).alloc (Nat.le_refl _) _).grown HG.out (by simp) (by intro k hk; simp [Value.ownBlock] at hk; omega)⟩
set_option maxHeartbeats 1600000 in
theorem keep_any (b g : Nat) (v0 : Value) (T : List Int) (m : Nat) (L G : List Int) (sp : Int) (bl : List Int) (w : World) (h : Srch w b g v0 T m L G sp bl) (hL : L = loadsL T G 3) (hT : timesOk T = true) :
    Calls Try.prog 54 #[.pointer (some ⟨b, 0, none⟩)] w fun e w' => e = .returned (.tuple #[]) ∧ Srch w' b g v0 T m L G (keepB T G (sp, bl)).1 (keepB T G (sp, bl)).2 ∧ Below g w w' := by
  have H := hidH h
  have HSP := hidH (bspan_any b 2 L w h.books (fun j z hj => by rw [hL] at hj; exact (loads_pos hT 3 j z hj).1))
  have hgs := h.given.1
  have hlt := h.lt
  have h8 := (timesOk_parts hT).1
  have HCL := hidH (cloneB_any g T.length T.length G w h.given h.len (by omega))
  have c5 := h.c5
  have c7 := h.c7
  have f6 := h.f6
  have f7 := h.f7
  obtain ⟨vb, c6, _⟩ := h.best
  clear h
  unfold keepB
  rw [← hL]
  generalize mostL L = x at *
  by_cases c : x < sp
  · rw [if_pos c]
    go_enter Try.func54, Try.ntmps54
    go_wp2_with fail
    refine HSP.out.mono ?_; rintro e w1 ⟨rfl, rfl⟩
    go_wp2_with fail
    refine HCL.out.mono ?_; rintro e w1 ⟨v1, rfl, hr, hb⟩
    have H1 := hidH (H.out.below hb)
    have HR1 := hidH (hr.mono (l' := b + 1) H.out.size (Nat.le_refl _))
    have HB1 := hidH (hb.mono (Nat.le_of_lt hgs))
    have c6' : w1.cell? ⟨b, 6, none⟩ = some vb := by rw [World.cell?_of_block (w := w) (hb.block b H.out.size)]; exact c6
    have c7' := H1.out.c7
    have f6' := H1.out.f6
    have f7' := H1.out.f7
    obtain ⟨a1, cap1, rfl, _, _, _, _⟩ := hr
    clear hb c6 c7 f6 f7 c5 HCL HSP
    go_wp2_with fail
    go_end0
    exact ⟨rfl, H1.out.kept HR1.out, (HB1.out.setCell (p := ⟨b, 6, none⟩) (Nat.le_of_lt hlt) _).setCell (p := ⟨b, 7, none⟩) (Nat.le_of_lt hlt) _⟩
  · rw [if_neg c]
    have c' : decide (x < sp) = false := decide_eq_false c
    go_enter Try.func54, Try.ntmps54
    go_wp2_with fail
    refine HSP.out.mono ?_; rintro e w1 ⟨rfl, rfl⟩
    go_wp2_with fail
    go_end0
    exact ⟨rfl, H.out, Below.refl _ _⟩
end Go.Proofs.Ytcinhmfjnjecdaa
