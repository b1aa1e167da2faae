/-
  Slices of segments in memory: a number and a slice of numbers each, that can be read. No conditions.
  Rows of segments: the laws' measure. No conditions.
  The laws' conversion of rows of segments. Condition: at most 1048576 segments, of at most 1048576 differences.
  Marks in a row of segments. Condition: not more numbers than the laws let through.
-/
import Derived.Test.YtgnoclnenhmakaaPlanBox
import Derived.Laws.MakeOwn
import Derived.Test.YtgnoclnenhmakaaSl
namespace Go.Proofs.Ytgnoclnenhmakaa
set_option maxRecDepth 4000
open Go.RowKit
/-- The slice v holds these segments, which can be read. -/
def LiesSg (w : World) (hi : Nat) (v : Value) (cs : List (Int × List Int)) : Prop := ∃ (a : Option Addr) (cap : Nat), v = .slice a cs.length cap ∧ cs.length ≤ cap ∧ cap ≤ maxLen ∧ (a = none → cap = 0) ∧
  ∀ (j : Nat) c zs, cs[j]? = some (c, zs) → ∃ b off u, a = some ⟨b, off, none⟩ ∧ b < hi ∧ w.cell? ⟨b, off + j * 2, none⟩ = some (.int .i64 c) ∧ w.cell? ⟨b, off + j * 2 + 1, none⟩ = some u ∧ Lies w 0 hi u zs
theorem LiesSg.below {w w' : World} {hi : Nat} {v : Value} {cs : List (Int × List Int)} (h : LiesSg w hi v cs) (hb : Below w.heap.size w w') : LiesSg w' hi v cs := by
  obtain ⟨a, cap, h1, h2, h3, h4, h5⟩ := h
  refine ⟨a, cap, h1, h2, h3, h4, fun j c zs hj => ?_⟩
  obtain ⟨b, off, u, e, hlt, hc, hu, hz⟩ := h5 j c zs hj
  exact ⟨b, off, u, e, hlt, by rw [hb.cell (p := ⟨b, off + j * 2, none⟩) (cell_blk _ _ _ hc)]; exact hc, by rw [hb.cell (p := ⟨b, off + j * 2 + 1, none⟩) (cell_blk _ _ _ hu)]; exact hu, hz.below hb⟩
theorem LiesSg.mono {w : World} {hi h2 : Nat} {v : Value} {cs : List (Int × List Int)} (h : LiesSg w hi v cs) (hh : hi ≤ h2) : LiesSg w h2 v cs := by
  obtain ⟨a, cap, h1, h2', h3, h4, h5⟩ := h
  refine ⟨a, cap, h1, h2', h3, h4, fun j c zs hj => ?_⟩
  obtain ⟨b, off, u, e, hlt, hc, hu, hz⟩ := h5 j c zs hj
  exact ⟨b, off, u, e, by omega, hc, hu, hz.mono (Nat.le_refl _) hh⟩
theorem LiesSg.len {w : World} {hi : Nat} {v : Value} {cs : List (Int × List Int)} (h : LiesSg w hi v cs) : ∃ a cap, v = .slice a cs.length cap ∧ cs.length ≤ cap ∧ cap ≤ maxLen := by
  obtain ⟨a, cap, h1, h2, h3, _⟩ := h
  exact ⟨a, cap, h1, h2, h3⟩
/-- .. with something in it: its address. -/
theorem LiesSg.addr {w : World} {hi : Nat} {v : Value} {cs : List (Int × List Int)} (h : LiesSg w hi v cs) (h0 : 0 < cs.length) : ∃ b off cap, v = .slice (some ⟨b, off, none⟩) cs.length cap ∧ cs.length ≤ cap ∧ cap ≤ maxLen ∧ b < w.heap.size ∧
    ∀ (j : Nat) c zs, cs[j]? = some (c, zs) → ∃ u, w.cell? ⟨b, off + j * 2, none⟩ = some (.int .i64 c) ∧ w.cell? ⟨b, off + j * 2 + 1, none⟩ = some u ∧ Lies w 0 hi u zs := by
  obtain ⟨a, cap, h1, h2, h3, _, h5⟩ := h
  obtain ⟨b, off, u, e, _, hc, _, _⟩ := h5 0 (cs[0]'h0).1 (cs[0]'h0).2 (List.getElem?_eq_getElem h0)
  subst e
  refine ⟨b, off, cap, h1, h2, h3, cell_blk _ _ _ hc, fun j c zs hj => ?_⟩
  obtain ⟨b2, off2, u2, e, _, hc2, hu2, hz2⟩ := h5 j c zs hj
  injection e with e
  injection e with e1 e2
  subst e1; subst e2
  exact ⟨u2, hc2, hu2, hz2⟩
end Go.Proofs.Ytgnoclnenhmakaa
namespace Go.Proofs.Ytgnoclnenhmakaa
set_option maxRecDepth 4000
open Go.RowKit
/-- The slice v is a row of the call's own that holds these segments, each with a row of its own behind it. -/
def RowSg (w : World) (lo hi : Nat) (v : Value) (cs : List (Int × List Int)) : Prop := ∃ (a : Option Addr) (cap : Nat) (L : Nat → Nat), v = .slice a cs.length cap ∧ cs.length ≤ cap ∧ cap ≤ maxLen ∧ (a = none → cap = 0) ∧ (∀ j, j < cs.length → L j ≤ L (j + 1)) ∧ lo ≤ L 0 ∧ L cs.length ≤ hi ∧
  ∀ (j : Nat) c zs, cs[j]? = some (c, zs) → ∃ b u, a = some ⟨b, 0, none⟩ ∧ lo ≤ b ∧ b < hi ∧ b < L 0 ∧ w.cell? ⟨b, j * 2, none⟩ = some (.int .i64 c) ∧ w.frozen? ⟨b, j * 2, none⟩ = false ∧ w.cell? ⟨b, j * 2 + 1, none⟩ = some u ∧ w.frozen? ⟨b, j * 2 + 1, none⟩ = false ∧ Row w (L j) (L (j + 1)) u zs
theorem mono_to {L : Nat → Nat} {n : Nat} (h : ∀ j, j < n → L j ≤ L (j + 1)) (i j : Nat) (hij : i ≤ j) (hj : j ≤ n) : L i ≤ L j := by
  induction j with
  | zero =>
    obtain rfl : i = 0 := by omega
    exact Nat.le_refl _
  | succ j ih =>
    by_cases e : i = j + 1
    · subst e; exact Nat.le_refl _
    · exact Nat.le_trans (ih (by omega) (by omega)) (h j (by omega))
theorem RowSg.lies {w : World} {lo hi : Nat} {v : Value} {cs : List (Int × List Int)} (h : RowSg w lo hi v cs) : LiesSg w hi v cs := by
  obtain ⟨a, cap, L, h1, h2, h3, h4, hL, hlo, hhi, h5⟩ := h
  refine ⟨a, cap, h1, h2, h3, h4, fun j c zs hj => ?_⟩
  obtain ⟨b, u, e, b1, b2, b3, c0, f0, c1, f1, hr⟩ := h5 j c zs hj
  have hjl := (List.getElem?_eq_some_iff.1 hj).1
  refine ⟨b, 0, u, e, b2, by rw [Nat.zero_add]; exact c0, by rw [Nat.zero_add]; exact c1, hr.lies.mono (Nat.zero_le _) (Nat.le_trans (mono_to hL (j + 1) cs.length (by omega) (Nat.le_refl _)) hhi)⟩
theorem RowSg.apart {w w' : World} {lo hi l h : Nat} {v : Value} {cs : List (Int × List Int)} (H : RowSg w l h v cs) (hA : Apart lo hi w w') (hd : h ≤ lo ∨ hi ≤ l) : RowSg w' l h v cs := by
  obtain ⟨a, cap, L, h1, h2, h3, h4, hL, hlo, hhi, h5⟩ := H
  refine ⟨a, cap, L, h1, h2, h3, h4, hL, hlo, hhi, fun j c zs hj => ?_⟩
  obtain ⟨b, u, e, b1, b2, b3, c0, f0, c1, f1, hr⟩ := h5 j c zs hj
  have hjl := (List.getElem?_eq_some_iff.1 hj).1
  have hb := cell_blk _ _ _ c0
  have hk := hA.block b hb (by omega)
  have m1 := mono_to hL 0 j (Nat.zero_le _) (by omega)
  have m2 := mono_to hL (j + 1) cs.length (by omega) (Nat.le_refl _)
  exact ⟨b, u, e, b1, b2, b3, by rw [World.cell?_of_block (w := w) hk]; exact c0, by rw [World.frozen?_of_block (w := w) hk]; exact f0, by rw [World.cell?_of_block (w := w) hk]; exact c1, by rw [World.frozen?_of_block (w := w) hk]; exact f1, hr.apart hA (by omega)⟩
theorem RowSg.below {w w' : World} {l h : Nat} {v : Value} {cs : List (Int × List Int)} (H : RowSg w l h v cs) (hb : Below w.heap.size w w') : RowSg w' l h v cs := H.apart (lo := h) (hi := h) (Apart.of_below hb) (.inl (Nat.le_refl _))
theorem RowSg.nil (w : World) (lo hi : Nat) (a : Option Addr) (cap : Nat) (hc : cap ≤ maxLen) (ha : a = none → cap = 0) (hh : lo ≤ hi) : RowSg w lo hi (.slice a 0 cap) [] := ⟨a, cap, fun _ => lo, rfl, Nat.zero_le _, hc, ha, fun _ _ => Nat.le_refl _, Nat.le_refl _, hh, fun _ _ _ h => by simp at h⟩
/-- A call that answers a new row of segments. -/
def NewSg (cs : List (Int × List Int)) (w : World) (e : Ending) (w' : World) : Prop := ∃ v, e = .returned v ∧ RowSg w' w.heap.size w'.heap.size v cs ∧ Below w.heap.size w w'
/-! ### Sizes -/
/-- What the laws' measure of a row of segments says. -/
def SizedSg (cs : List (Int × List Int)) (left : Nat) (w : World) (e : Ending) (w' : World) : Prop :=
  ∃ r : Int, e = .returned (.int .i64 r) ∧ (r = -1 ∨ (∃ m : Nat, r = m ∧ m ≤ left) ∧ cs.length ≤ left ∧ ∀ c zs, (c, zs) ∈ cs → zs.length ≤ left) ∧ Below w.heap.size w w'
/-! ### The conversion -/
theorem SegAt.put1 {w : World} {b : Nat} {c : Int} {v : Value} (h : SegAt w b c v) (u : Value) : SegAt (w.setCell ⟨b, 1, none⟩ u) b c u := by
  unfold SegAt at *
  simp [World.setCell, Array.getElem?_modify, h]
theorem SegAt.put0 {w : World} {b : Nat} {c : Int} {v : Value} (h : SegAt w b c v) (d : Int) : SegAt (w.setCell ⟨b, 0, none⟩ (.int .i64 d)) b d v := by
  unfold SegAt at *
  simp [World.setCell, Array.getElem?_modify, h]
theorem SegAt.free {w : World} {b : Nat} {c : Int} {v : Value} (h : SegAt w b c v) (i : Nat) : w.frozen? ⟨b, i, none⟩ = false := by
  unfold SegAt at h
  simp [World.frozen?, h]
theorem SegAt.other {w : World} {b : Nat} {c : Int} {v : Value} (h : SegAt w b c v) (p : Addr) (u : Value) (hp : b ≠ p.block) : SegAt (w.setCell p u) b c v := by
  unfold SegAt at *
  rw [heap_setCell_other _ _ _ _ hp]; exact h
theorem SegAt.alloc {w : World} {b : Nat} {c : Int} {v : Value} (h : SegAt w b c v) (o : Obj) : SegAt (w.alloc o) b c v := by
  have hl := h.lt
  unfold SegAt at *
  rw [heap_alloc_old _ _ hl]; exact h
theorem SegAt.newAt (w : World) (c : Int) (v : Value) (n : Nat) (hn : w.heap.size = n) : SegAt (w.alloc (.cells #[.int .i64 c, v] 39)) n c v := hn ▸ SegAt.fresh w c v
theorem results_seg {fn : Func} {p : Tmp} (h : fn.results = #[.cell p 39]) (tmps : Array Value) (w : World) (g : Nat) (c : Int) (v : Value)
    (hp : tmps.getD p undef = .pointer (some ⟨g, 0, none⟩)) (hg : SegAt w g c v) : (results fn tmps).run Try.prog w = .ok (.agg #[.int .i64 c, v]) w :=
  results_cell_row h tmps w g 39 _ (0, 0) _ hp hg Try.underlying39 rfl (seg_size c v)
end Go.Proofs.Ytgnoclnenhmakaa
namespace Go.Proofs.Ytgnoclnenhmakaa
set_option maxRecDepth 4000
open Go.RowKit
def nextL (L : Nat → Nat) (k s j : Nat) : Nat := if j ≤ k then L j else s
theorem nextL_le {L : Nat → Nat} {k s j : Nat} (h : j ≤ k) : nextL L k s j = L j := if_pos h
theorem nextL_gt {L : Nat → Nat} {k s j : Nat} (h : ¬ j ≤ k) : nextL L k s j = s := if_neg h
/-- Block b holds the first k segments; the other cells are as they were made. -/
def SgTo (w : World) (b n : Nat) (L : Nat → Nat) (cs : List (Int × List Int)) (k : Nat) : Prop := (∀ i, i < n * 2 → (∃ x, w.cell? ⟨b, i, none⟩ = some x) ∧ w.frozen? ⟨b, i, none⟩ = false) ∧ (∀ j, j < k → L j ≤ L (j + 1)) ∧ b < L 0 ∧ L k = w.heap.size ∧
  ∀ (j : Nat) c zs, j < k → cs[j]? = some (c, zs) → ∃ u, w.cell? ⟨b, j * 2, none⟩ = some (.int .i64 c) ∧ w.cell? ⟨b, j * 2 + 1, none⟩ = some u ∧ Row w (L j) (L (j + 1)) u zs
theorem info_sg : (Try.prog.info? 39).map (fun i => (i.zero, i.size, i.bytes)) = some (some (.agg #[.int .i64 0, .slice none 0 0]), 2, 32) := by kernel_rfl
theorem made_sg (m i : Nat) (h : i < m * 2) : ∃ x, (madeCells #[.int .i64 0, .slice none 0 0] (m * 2))[i]? = some x := by
  have : i < (madeCells #[Value.int .i64 0, .slice none 0 0] (m * 2)).size := by simp [madeCells]; omega
  exact ⟨_, Array.getElem?_eq_getElem this⟩
end Go.Proofs.Ytgnoclnenhmakaa
namespace Go.Proofs.Ytgnoclnenhmakaa
set_option maxRecDepth 4000
open Go.RowKit
/-- The number of all differences of a row of segments. -/
def lenS (cs : List (Int × List Int)) : Nat := (cs.map fun s => s.2.length).sum
/-- .. and of all numbers in it. -/
def totS (cs : List (Int × List Int)) : Nat := cs.length + lenS cs
theorem lenS_snoc (cs : List (Int × List Int)) (k : Nat) (s : Int × List Int) (h : cs[k]? = some s) : lenS (cs.take (k + 1)) = lenS (cs.take k) + s.2.length := by
  unfold lenS
  rw [List.take_add_one, h, List.map_append, List.sum_append]
  simp
theorem lenS_mem {cs : List (Int × List Int)} {c : Int} {zs : List Int} (h : (c, zs) ∈ cs) : zs.length ≤ lenS cs := by
  induction cs with
  | nil => cases h
  | cons s cs ih =>
    unfold lenS at *
    rw [List.map_cons, List.sum_cons]
    rcases List.mem_cons.1 h with e | e
    · subst e; exact Nat.le_add_right _ _
    · have := ih e; omega
theorem totS_snoc (cs : List (Int × List Int)) (k : Nat) (s : Int × List Int) (h : cs[k]? = some s) : totS (cs.take (k + 1)) = totS (cs.take k) + (1 + s.2.length) := by
  have hk := (List.getElem?_eq_some_iff.1 h).1
  unfold totS
  rw [lenS_snoc cs k s h, List.length_take, List.length_take]
  omega
theorem totS_take (cs : List (Int × List Int)) (k : Nat) : totS (cs.take k) ≤ totS cs := by
  have h : totS cs = totS (cs.take k) + totS (cs.drop k) := by
    have e := List.take_append_drop k cs
    unfold totS lenS
    conv => lhs; rw [← e]
    rw [List.length_append, List.map_append, List.sum_append]
    omega
  omega
/-- The marks of a row of segments from k on. -/
def mkS : List (Int × List Int) → Int → List (Int × List Int)
  | [], _ => []
  | s :: cs, k => (k, upFrom (k + 1) s.2.length) :: mkS cs (k + 1 + s.2.length)
theorem mkS_length (cs : List (Int × List Int)) (k : Int) : (mkS cs k).length = cs.length := by
  induction cs generalizing k with
  | nil => rfl
  | cons s cs ih => simp [mkS, ih]
theorem mkS_at (cs : List (Int × List Int)) (k : Int) (j : Nat) (s : Int × List Int) (h : cs[j]? = some s) : (mkS cs k)[j]? = some (k + totS (cs.take j), upFrom (k + totS (cs.take j) + 1) s.2.length) := by
  induction cs generalizing k j with
  | nil => simp at h
  | cons t cs ih =>
    cases j with
    | zero =>
      have e : t = s := by simpa using h
      subst e
      simp [mkS, totS, lenS]
    | succ j =>
      have h' : cs[j]? = some s := by simpa using h
      have e : k + 1 + (t.2.length : Int) + (totS (cs.take j) : Int) = k + (totS ((t :: cs).take (j + 1)) : Int) := by
        simp only [totS, lenS, List.take_succ_cons, List.length_cons, List.map_cons, List.sum_cons]
        omega
      show (mkS cs (k + 1 + (t.2.length : Int)))[j]? = _
      rw [ih _ j h', e]
def mixS (cs : List (Int × List Int)) (k0 : Int) (k : Nat) : List (Int × List Int) := (mkS cs k0).take k ++ cs.drop k
theorem mixS_length (cs : List (Int × List Int)) (k0 : Int) (k : Nat) (h : k ≤ cs.length) : (mixS cs k0 k).length = cs.length := by
  unfold mixS
  rw [List.length_append, List.length_take, List.length_drop, mkS_length]
  omega
theorem mixS_zero (cs : List (Int × List Int)) (k0 : Int) : mixS cs k0 0 = cs := by simp [mixS]
theorem mixS_all (cs : List (Int × List Int)) (k0 : Int) : mixS cs k0 cs.length = mkS cs k0 := by
  unfold mixS
  rw [List.drop_length, List.append_nil, List.take_of_length_le (by rw [mkS_length]; exact Nat.le_refl _)]
theorem mixS_at (cs : List (Int × List Int)) (k0 : Int) (k : Nat) (h : k < cs.length) : (mixS cs k0 k)[k]? = cs[k]? := by
  unfold mixS
  rw [List.getElem?_append_right (by rw [List.length_take, mkS_length]; omega), List.length_take, mkS_length, Nat.min_eq_left (by omega), Nat.sub_self, List.getElem?_drop, Nat.add_zero]
theorem mixS_next (cs : List (Int × List Int)) (k0 : Int) (k : Nat) (s : Int × List Int) (h : cs[k]? = some s) : (mixS cs k0 k).set k (k0 + totS (cs.take k), upFrom (k0 + totS (cs.take k) + 1) s.2.length) = mixS cs k0 (k + 1) := by
  have hk := (List.getElem?_eq_some_iff.1 h).1
  unfold mixS
  rw [List.set_append_right _ _ (by rw [List.length_take, mkS_length]; omega), List.length_take, mkS_length, Nat.min_eq_left (by omega), Nat.sub_self, List.drop_eq_getElem_cons (by omega), List.set_cons_zero, List.take_add_one, mkS_at cs k0 k s h]
  simp
/-- The segments lie in block b, with rows of their own between the bounds L. -/
def SgAt (w : World) (b : Nat) (L : Nat → Nat) (cs : List (Int × List Int)) : Prop := ∀ (j : Nat) c zs, cs[j]? = some (c, zs) → ∃ u, w.cell? ⟨b, j * 2, none⟩ = some (.int .i64 c) ∧ w.frozen? ⟨b, j * 2, none⟩ = false ∧ w.cell? ⟨b, j * 2 + 1, none⟩ = some u ∧ w.frozen? ⟨b, j * 2 + 1, none⟩ = false ∧ Row w (L j) (L (j + 1)) u zs
theorem RowSg.at {w : World} {lo hi : Nat} {v : Value} {cs : List (Int × List Int)} (h : RowSg w lo hi v cs) (h0 : 0 < cs.length) : ∃ b cap L, v = .slice (some ⟨b, 0, none⟩) cs.length cap ∧ cs.length ≤ cap ∧ cap ≤ maxLen ∧ (∀ j, j < cs.length → L j ≤ L (j + 1)) ∧ lo ≤ L 0 ∧ L cs.length ≤ hi ∧ lo ≤ b ∧ b < hi ∧ b < L 0 ∧ SgAt w b L cs := by
  obtain ⟨a, cap, L, h1, h2, h3, h4, hL, hlo, hhi, h5⟩ := h
  obtain ⟨b, u, e, b1, b2, b3, _⟩ := h5 0 (cs[0]'h0).1 (cs[0]'h0).2 (List.getElem?_eq_getElem h0)
  subst e
  refine ⟨b, cap, L, h1, h2, h3, hL, hlo, hhi, b1, b2, b3, fun j c zs hj => ?_⟩
  obtain ⟨b', u', e, _, _, _, c0, f0, c1, f1, hr⟩ := h5 j c zs hj
  injection e with e
  injection e with e
  subst e
  exact ⟨u', c0, f0, c1, f1, hr⟩
theorem SgAt.row {w : World} {lo hi b n cap : Nat} {L : Nat → Nat} {cs : List (Int × List Int)} (h : SgAt w b L cs) (hn : n = cs.length) (h2 : cs.length ≤ cap) (h3 : cap ≤ maxLen) (hL : ∀ j, j < cs.length → L j ≤ L (j + 1)) (hlo : lo ≤ L 0) (hhi : L cs.length ≤ hi) (b1 : lo ≤ b) (b2 : b < hi) (b3 : b < L 0) : RowSg w lo hi (.slice (some ⟨b, 0, none⟩) n cap) cs :=
  ⟨some ⟨b, 0, none⟩, cap, L, by rw [hn], h2, h3, (fun e => by cases e), hL, hlo, hhi, fun j c zs hj => by
    obtain ⟨u, c0, f0, c1, f1, hr⟩ := h j c zs hj
    exact ⟨b, u, rfl, b1, b2, b3, c0, f0, c1, f1, hr⟩⟩
/-- One segment is written anew: its number, and then its row. -/
theorem SgAt.upd {w w' : World} {b k : Nat} {L : Nat → Nat} {cs : List (Int × List Int)} {c : Int} {zs : List Int} {u : Value} (h : SgAt w b L cs) (hL : ∀ j, j < cs.length → L j ≤ L (j + 1)) (hb : b < L 0) (hk : cs[k]? = some (c, zs)) (hu : w.cell? ⟨b, k * 2 + 1, none⟩ = some u) (d : Int) (ys : List Int)
    (hA : Apart (L k) (L (k + 1)) (w.setCell ⟨b, k * 2, none⟩ (.int .i64 d)) w') (hr : Row w' (L k) (L (k + 1)) u ys) : SgAt w' b L (cs.set k (d, ys)) := by
  intro j c' zs' hj
  have hkl := (List.getElem?_eq_some_iff.1 hk).1
  have hjl : j < cs.length := by have := (List.getElem?_eq_some_iff.1 hj).1; rwa [List.length_set] at this
  obtain ⟨u0, k0, kf, k1, kf1, kr⟩ := h k c zs hk
  have hbw : b < w.heap.size := cell_blk _ _ _ k0
  have hm := mono_to hL
  have hbk : b < L k := Nat.lt_of_lt_of_le hb (hm 0 k (Nat.zero_le _) (by omega))
  have hblk := hA.block b (by simpa using hbw) (.inl hbk)
  have hcell (i : Nat) : w'.cell? ⟨b, i, none⟩ = (w.setCell ⟨b, k * 2, none⟩ (.int .i64 d)).cell? ⟨b, i, none⟩ := World.cell?_of_block (a := ⟨b, i, none⟩) hblk
  have hfro (i : Nat) : w'.frozen? ⟨b, i, none⟩ = (w.setCell ⟨b, k * 2, none⟩ (.int .i64 d)).frozen? ⟨b, i, none⟩ := World.frozen?_of_block (a := ⟨b, i, none⟩) hblk
  by_cases e : j = k
  · subst e
    rw [List.getElem?_set_self hkl] at hj
    injection hj with hj
    injection hj with e1 e2
    subst e1; subst e2
    refine ⟨u, ?_, ?_, ?_, ?_, hr⟩
    · rw [hcell]; exact World.cell?_setCell_same _ _ _ k0
    · rw [hfro]; simpa using kf
    · rw [hcell, World.cell?_setCell_other _ _ _ _ (by intro h; injection h; omega)]; exact hu
    · rw [hfro]; simpa using kf1
  · rw [List.getElem?_set_ne (fun h => e h.symm)] at hj
    obtain ⟨u', g0, gf, g1, gf1, gr⟩ := h j c' zs' hj
    refine ⟨u', ?_, ?_, ?_, ?_, ?_⟩
    · rw [hcell, World.cell?_setCell_other _ _ _ _ (by intro h; injection h; omega)]; exact g0
    · rw [hfro]; simpa using gf
    · rw [hcell, World.cell?_setCell_other _ _ _ _ (by intro h; injection h; omega)]; exact g1
    · rw [hfro]; simpa using gf1
    · have h1 : L 0 ≤ L j := hm 0 j (Nat.zero_le _) (by omega)
      refine (gr.apart (Apart.of_onto (lo := b) (hi := b + 1) (Onto.setCell b (k * 2) w _) (Nat.le_refl _) (Nat.lt_succ_self _)) (.inr (by omega))).apart hA ?_
      rcases Nat.lt_or_gt_of_ne e with h | h
      · exact .inl (hm (j + 1) k (by omega) (by omega))
      · exact .inr (hm (k + 1) j (by omega) (by omega))
end Go.Proofs.Ytgnoclnenhmakaa
