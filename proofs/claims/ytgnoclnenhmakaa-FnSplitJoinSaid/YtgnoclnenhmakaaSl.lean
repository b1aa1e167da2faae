/-
  Slices of numbers in memory: what lies behind them, what stands when blocks between two numbers are written, and rows that a call makes and writes. No conditions.
  The laws' own functions on slices of numbers: a copy, equality, marks and whether they still stand. Condition: slices of at most 1048576 numbers.
-/
import Derived.Test.YtgnoclnenhmakaaBase
import Derived.BigQuiet
namespace Go.Proofs.Ytgnoclnenhmakaa
set_option maxRecDepth 4000
open Go.RowKit
/-- All blocks but those from lo on and below hi stand, and new blocks may have come. -/
structure Apart (lo hi : Nat) (w w' : World) : Prop where
  os : w'.os = w.os
  tape : w'.tape = w.tape
  output : w'.output = w.output
  size : w.heap.size ≤ w'.heap.size
  block : ∀ k, k < w.heap.size → (k < lo ∨ hi ≤ k) → w'.heap[k]? = w.heap[k]?
theorem Apart.of_below {lo hi : Nat} {a b : World} (h : Below a.heap.size a b) : Apart lo hi a b := ⟨h.os, h.tape, h.output, h.size, fun k hk _ => h.block k hk⟩
theorem Apart.of_onto {r lo hi : Nat} {a b : World} (h : Onto r a b) (h1 : lo ≤ r) (h2 : r < hi) : Apart lo hi a b := ⟨h.os, h.tape, h.output, h.size, fun k hk hr => h.block k hk (by omega)⟩
theorem Apart.trans {lo hi : Nat} {a b c : World} (h : Apart lo hi a b) (k : Apart lo hi b c) : Apart lo hi a c :=
  ⟨k.os.trans h.os, k.tape.trans h.tape, k.output.trans h.output, Nat.le_trans h.size k.size, fun j hj hr => (k.block j (Nat.lt_of_lt_of_le hj h.size) hr).trans (h.block j hj hr)⟩
theorem Apart.below {B lo hi : Nat} {a b : World} (h : Apart lo hi a b) (hB : B ≤ lo) (hs : B ≤ a.heap.size) : Below B a b :=
  ⟨h.os, h.tape, h.output, h.size, fun k hk => h.block k (by omega) (by omega)⟩
theorem Apart.empty {lo : Nat} {a b : World} (h : Apart lo lo a b) : Below a.heap.size a b := ⟨h.os, h.tape, h.output, h.size, fun k hk => h.block k hk (by omega)⟩
theorem cell_blk (w : World) (p : Addr) (v : Value) (h : w.cell? p = some v) : p.block < w.heap.size := World.block_lt_of_cell? w p h
/-- The slice v holds the numbers zs, in a block from lo on and below hi. -/
def Lies (w : World) (lo hi : Nat) (v : Value) (zs : List Int) : Prop :=
  ∃ (a : Option Addr) (cap : Nat), v = .slice a zs.length cap ∧ zs.length ≤ cap ∧ cap ≤ maxLen ∧ (a = none → cap = 0) ∧
    ∀ (j : Nat) z, zs[j]? = some z → ∃ b off, a = some ⟨b, off, none⟩ ∧ lo ≤ b ∧ b < hi ∧ w.cell? ⟨b, off + j, none⟩ = some (.int .i64 z)
/-- The slice v is a row of its own that holds the numbers zs and can be written. -/
def Row (w : World) (lo hi : Nat) (v : Value) (zs : List Int) : Prop :=
  ∃ (a : Option Addr) (cap : Nat), v = .slice a zs.length cap ∧ zs.length ≤ cap ∧ cap ≤ maxLen ∧ (a = none → cap = 0) ∧
    ∀ (j : Nat) z, zs[j]? = some z → ∃ b, a = some ⟨b, 0, none⟩ ∧ lo ≤ b ∧ b < hi ∧ w.cell? ⟨b, j, none⟩ = some (.int .i64 z) ∧ w.frozen? ⟨b, j, none⟩ = false
theorem Row.lies {w : World} {lo hi : Nat} {v : Value} {zs : List Int} (h : Row w lo hi v zs) : Lies w lo hi v zs := by
  obtain ⟨a, cap, h1, h2, h3, h4, h5⟩ := h
  refine ⟨a, cap, h1, h2, h3, h4, fun j z hj => ?_⟩
  obtain ⟨b, e, x, y, hc, _⟩ := h5 j z hj
  exact ⟨b, 0, e, x, y, by rw [Nat.zero_add]; exact hc⟩
theorem Lies.apart {w w' : World} {lo hi l h : Nat} {v : Value} {zs : List Int} (H : Lies w l h v zs) (hA : Apart lo hi w w') (hd : h ≤ lo ∨ hi ≤ l) : Lies w' l h v zs := by
  obtain ⟨a, cap, h1, h2, h3, h4, h5⟩ := H
  refine ⟨a, cap, h1, h2, h3, h4, fun j z hj => ?_⟩
  obtain ⟨b, off, e, x, y, hc⟩ := h5 j z hj
  have hb := cell_blk _ _ _ hc
  exact ⟨b, off, e, x, y, by rw [World.cell?_of_block (w := w) (hA.block b hb (by omega))]; exact hc⟩
theorem Row.apart {w w' : World} {lo hi l h : Nat} {v : Value} {zs : List Int} (H : Row w l h v zs) (hA : Apart lo hi w w') (hd : h ≤ lo ∨ hi ≤ l) : Row w' l h v zs := by
  obtain ⟨a, cap, h1, h2, h3, h4, h5⟩ := H
  refine ⟨a, cap, h1, h2, h3, h4, fun j z hj => ?_⟩
  obtain ⟨b, e, x, y, hc, hf⟩ := h5 j z hj
  have hb := cell_blk _ _ _ hc
  have hk := hA.block b hb (by omega)
  exact ⟨b, e, x, y, by rw [World.cell?_of_block (w := w) hk]; exact hc, by rw [World.frozen?_of_block (w := w) hk]; exact hf⟩
theorem Lies.below {w w' : World} {l h : Nat} {v : Value} {zs : List Int} (H : Lies w l h v zs) (hb : Below w.heap.size w w') : Lies w' l h v zs := H.apart (lo := h) (hi := h) (Apart.of_below hb) (Or.inl (Nat.le_refl _))
theorem Row.below {w w' : World} {l h : Nat} {v : Value} {zs : List Int} (H : Row w l h v zs) (hb : Below w.heap.size w w') : Row w' l h v zs := H.apart (lo := h) (hi := h) (Apart.of_below hb) (Or.inl (Nat.le_refl _))
theorem Lies.mono {w : World} {l h l' h' : Nat} {v : Value} {zs : List Int} (H : Lies w l h v zs) (hl : l' ≤ l) (hh : h ≤ h') : Lies w l' h' v zs := by
  obtain ⟨a, cap, h1, h2, h3, h4, h5⟩ := H
  refine ⟨a, cap, h1, h2, h3, h4, fun j z hj => ?_⟩
  obtain ⟨b, off, e, x, y, hc⟩ := h5 j z hj
  exact ⟨b, off, e, by omega, by omega, hc⟩
theorem Row.mono {w : World} {l h l' h' : Nat} {v : Value} {zs : List Int} (H : Row w l h v zs) (hl : l' ≤ l) (hh : h ≤ h') : Row w l' h' v zs := by
  obtain ⟨a, cap, h1, h2, h3, h4, h5⟩ := H
  refine ⟨a, cap, h1, h2, h3, h4, fun j z hj => ?_⟩
  obtain ⟨b, e, x, y, hc⟩ := h5 j z hj
  exact ⟨b, e, by omega, by omega, hc⟩
/-- A slice without numbers. -/
theorem Row.nil (w : World) (lo hi : Nat) (a : Option Addr) (cap : Nat) (hc : cap ≤ maxLen) (ha : a = none → cap = 0) : Row w lo hi (.slice a 0 cap) [] := ⟨a, cap, rfl, Nat.zero_le _, hc, ha, fun _ _ h => by simp at h⟩
/-- Block b holds numbers and can be written. -/
def Blk (w : World) (b : Nat) (zs : List Int) : Prop := b < w.heap.size ∧ ∀ (j : Nat) z, zs[j]? = some z → w.cell? ⟨b, j, none⟩ = some (.int .i64 z) ∧ w.frozen? ⟨b, j, none⟩ = false
theorem Blk.row {w : World} {b : Nat} {zs : List Int} (H : Blk w b zs) {lo hi cap : Nat} (hl : lo ≤ b) (hh : b < hi) (hc : zs.length ≤ cap) (hm : cap ≤ maxLen) {n : Nat} (hn : n = zs.length) : Row w lo hi (.slice (some ⟨b, 0, none⟩) n cap) zs :=
  ⟨some ⟨b, 0, none⟩, cap, by rw [hn], hc, hm, (fun h => by cases h), fun j z hj => ⟨b, rfl, hl, hh, H.2 j z hj⟩⟩
theorem Blk.drewN {w : World} {b : Nat} {zs : List Int} (H : Blk w b zs) (q : Nat) : Blk (w.drewN q) b zs := ⟨H.1, fun j z hj => by rw [World.cell?_drewN]; simpa using H.2 j z hj⟩
theorem Blk.apart {w w' : World} {lo hi b : Nat} {zs : List Int} (H : Blk w b zs) (hA : Apart lo hi w w') (hd : b < lo ∨ hi ≤ b) : Blk w' b zs := by
  have hk := hA.block b H.1 (by omega)
  refine ⟨Nat.lt_of_lt_of_le H.1 hA.size, fun j z hj => ?_⟩
  obtain ⟨x, y⟩ := H.2 j z hj
  exact ⟨by rw [World.cell?_of_block (w := w) hk]; exact x, by rw [World.frozen?_of_block (w := w) hk]; exact y⟩
theorem Blk.below {w w' : World} {b : Nat} {zs : List Int} (H : Blk w b zs) (hb : Below w.heap.size w w') : Blk w' b zs := H.apart (lo := 0) (hi := 0) (Apart.of_below hb) (Or.inr (Nat.zero_le _))
theorem cells_frozen (w : World) (C : Array Value) (t j : Nat) : (w.alloc (.cells C t)).frozen? ⟨w.heap.size, j, none⟩ = false := by
  have h : (w.alloc (.cells C t)).heap[w.heap.size]? = some (.cells C t (0, 0)) := heap_alloc_new w _
  unfold World.frozen?
  rw [h]
  simp
theorem Blk.made (w : World) (t n : Nat) : Blk (w.alloc (.cells (madeCells #[Value.int .i64 0] n) t)) w.heap.size (List.replicate n 0) := by
  refine ⟨by simp, fun j z hj => ⟨?_, cells_frozen _ _ _ _⟩⟩
  have hlt : j < n := by have := (List.getElem?_eq_some_iff.1 hj).1; simpa using this
  obtain rfl : z = 0 := by
    rw [List.getElem?_replicate, if_pos hlt] at hj
    injection hj with hj; exact hj.symm
  rw [World.cell?_alloc_at _ _ _ _ rfl]
  simp [madeCells, hlt, Nat.mod_one]
theorem Blk.lit (w : World) (t : Nat) (zs : List Int) : Blk (w.alloc (.cells (zs.map (Value.int .i64)).toArray t)) w.heap.size zs := by
  refine ⟨by simp, fun j z hj => ⟨?_, cells_frozen _ _ _ _⟩⟩
  rw [World.cell?_alloc_at _ _ _ _ rfl]
  simp [hj]
theorem Blk.set {w : World} {b : Nat} {zs : List Int} (H : Blk w b zs) (k : Nat) (x : Int) : Blk (w.setCell ⟨b, k, none⟩ (.int .i64 x)) b (zs.set k x) := by
  refine ⟨by simpa [World.setCell] using H.1, fun j z hj => ?_⟩
  rw [List.getElem?_set] at hj
  by_cases e : k = j
  · subst e
    rw [if_pos rfl] at hj
    by_cases hk : k < zs.length
    · rw [if_pos hk] at hj
      injection hj with hj
      subst hj
      obtain ⟨hc, hf⟩ := H.2 k _ (List.getElem?_eq_getElem hk)
      exact ⟨World.cell?_setCell_same _ _ _ hc, by simpa using hf⟩
    · rw [if_neg hk] at hj; simp at hj
  · rw [if_neg e] at hj
    obtain ⟨hc, hf⟩ := H.2 j z hj
    exact ⟨by rw [World.cell?_setCell_other _ _ _ _ (by intro h; injection h; omega)]; exact hc, by simpa using hf⟩
theorem Row.blk {w : World} {lo hi : Nat} {v : Value} {zs : List Int} (H : Row w lo hi v zs) (h0 : 0 < zs.length) : ∃ b cap, v = .slice (some ⟨b, 0, none⟩) zs.length cap ∧ zs.length ≤ cap ∧ cap ≤ maxLen ∧ lo ≤ b ∧ b < hi ∧ Blk w b zs := by
  obtain ⟨a, cap, h1, h2, h3, h4, h5⟩ := H
  obtain ⟨b, e, x, y, hc, _⟩ := h5 0 _ (List.getElem?_eq_getElem h0)
  subst e
  refine ⟨b, cap, h1, h2, h3, x, y, cell_blk _ _ _ hc, fun j z hj => ?_⟩
  obtain ⟨b', e, _, _, k⟩ := h5 j z hj
  injection e with e; injection e with e
  subst e
  exact k
/-- The first k numbers of a list, and zeros for the others. -/
def fill (T : List Int) (k : Nat) : List Int := T.take k ++ List.replicate (T.length - k) 0
theorem fill_zero (T : List Int) : fill T 0 = List.replicate T.length 0 := by simp [fill]
theorem fill_length (T : List Int) (k : Nat) (h : k ≤ T.length) : (fill T k).length = T.length := by simp [fill]; omega
theorem fill_all (T : List Int) : fill T T.length = T := by simp [fill]
theorem fill_at (T : List Int) (k : Nat) (h : k < T.length) : (fill T k)[k]? = some 0 := by
  unfold fill
  rw [List.getElem?_append_right (by simp; omega), List.length_take, Nat.min_eq_left (by omega), Nat.sub_self, List.getElem?_replicate, if_pos (by omega)]
theorem fill_set (T : List Int) (k : Nat) (x : Int) (h : T[k]? = some x) : (fill T k).set k x = fill T (k + 1) := by
  have hk := (List.getElem?_eq_some_iff.1 h).1
  have hl : (T.take k).length = k := by simp; omega
  unfold fill
  rw [List.set_append_right _ _ (by omega), hl, Nat.sub_self]
  obtain ⟨m, hm⟩ : ∃ m, T.length - k = m + 1 := ⟨T.length - k - 1, by omega⟩
  rw [hm, List.replicate_succ, List.set_cons_zero, show T.length - (k + 1) = m by omega, List.take_add_one, h]
  simp
theorem get_lt {α : Type} (l : List α) (k : Nat) (h : k < l.length) : ∃ x, l[k]? = some x := ⟨_, List.getElem?_eq_getElem h⟩
/-- Numbers as the cells of an append. -/
def ints (zs : List Int) : List Value := zs.map (Value.int .i64)
/-- What a slice of the call's own holds, as a row. -/
theorem row_of_owns {w : World} {lo e : Nat} {v : Value} {n : Nat} {zs : List Int} (h : w.ownsRow lo e 1 v n (ints zs)) : Row w lo w.heap.size v zs ∧ zs.length = n := by
  unfold ints at h
  obtain ⟨hl, hv⟩ := h
  rw [List.length_map, Nat.mul_one] at hl
  refine ⟨?_, hl⟩
  rcases hv with ⟨rfl, rfl⟩ | ⟨g, cap, cur, rfl, hg, hh, hn, hc, hsz, ht⟩
  · obtain rfl : zs = [] := List.eq_nil_of_length_eq_zero hl
    exact Row.nil _ _ _ _ _ (Nat.zero_le _) (fun _ => rfl)
  · have hlt : g < w.heap.size := (Array.getElem?_eq_some_iff.1 hh).1
    refine ⟨some ⟨g, 0, none⟩, cap, by rw [hl], by omega, hc, (fun h => by cases h), fun j z hj => ⟨g, rfl, hg, hlt, ?_⟩⟩
    have hjn := (List.getElem?_eq_some_iff.1 hj).1
    have e1 : (zs.map (Value.int .i64))[j]? = some (.int .i64 z) := by rw [List.getElem?_map, hj]; rfl
    rw [← ht, List.getElem?_take, if_pos (by omega), Array.getElem?_toList] at e1
    have hb : w.heap[g] = Obj.cells cur e (0, 0) := by
      have := (Array.getElem?_eq_some_iff.1 hh).2; exact this
    constructor
    · simp [World.cell?, hh, e1]
    · simp [World.frozen?, hh]
theorem Lies.addr {w : World} {lo hi : Nat} {v : Value} {zs : List Int} (H : Lies w lo hi v zs) (h0 : 0 < zs.length) : ∃ b off cap, v = .slice (some ⟨b, off, none⟩) zs.length cap ∧ zs.length ≤ cap ∧ cap ≤ maxLen ∧ lo ≤ b ∧ b < hi ∧ b < w.heap.size ∧ ∀ (j : Nat) z, zs[j]? = some z → w.cell? ⟨b, off + j, none⟩ = some (.int .i64 z) := by
  obtain ⟨a, cap, h1, h2, h3, h4, h5⟩ := H
  obtain ⟨b, off, e, x, y, hc⟩ := h5 0 _ (List.getElem?_eq_getElem h0)
  subst e
  refine ⟨b, off, cap, h1, h2, h3, x, y, cell_blk _ _ _ hc, fun j z hj => ?_⟩
  obtain ⟨b', off', e, _, _, k⟩ := h5 j z hj
  injection e with e; injection e with e1 e2
  subst e1; subst e2
  exact k
theorem lies_of {w : World} {lo hi b off n cap : Nat} {zs : List Int} (hn : n = zs.length) (hc : zs.length ≤ cap) (hm : cap ≤ maxLen) (hl : lo ≤ b) (hh : b < hi) (h : ∀ (j : Nat) z, zs[j]? = some z → w.cell? ⟨b, off + j, none⟩ = some (.int .i64 z)) : Lies w lo hi (.slice (some ⟨b, off, none⟩) n cap) zs :=
  ⟨some ⟨b, off, none⟩, cap, by rw [hn], hc, hm, (fun h => by cases h), fun j z hj => ⟨b, off, rfl, hl, hh, h j z hj⟩⟩
theorem lies_take {w : World} {lo hi b off cap : Nat} {zs : List Int} (n : Nat) (hn : n ≤ zs.length) (hc : zs.length ≤ cap) (hm : cap ≤ maxLen) (hl : lo ≤ b) (hh : b < hi) (h : ∀ (j : Nat) z, zs[j]? = some z → w.cell? ⟨b, off + j, none⟩ = some (.int .i64 z)) : Lies w lo hi (.slice (some ⟨b, off, none⟩) n cap) (zs.take n) :=
  lies_of (by rw [List.length_take]; omega) (by rw [List.length_take]; omega) hm hl hh fun j z hj => by
    have hjn : j < n := by have := (List.getElem?_eq_some_iff.1 hj).1; rw [List.length_take] at this; omega
    rw [List.getElem?_take, if_pos hjn] at hj
    exact h j z hj
theorem lies_drop {w : World} {lo hi b off cap : Nat} {zs : List Int} (n m c : Nat) (hm' : m = zs.length - n) (hcn : c = cap - n) (hc : zs.length ≤ cap) (hm : cap ≤ maxLen) (hl : lo ≤ b) (hh : b < hi) (h : ∀ (j : Nat) z, zs[j]? = some z → w.cell? ⟨b, off + j, none⟩ = some (.int .i64 z)) : Lies w lo hi (.slice (some ⟨b, off + n, none⟩) m c) (zs.drop n) :=
  lies_of (by rw [List.length_drop]; exact hm') (by rw [List.length_drop]; omega) (by omega) hl hh fun j z hj => by
    rw [List.getElem?_drop] at hj
    have := h (n + j) z hj
    rwa [← Nat.add_assoc] at this
/-- The cells behind an address, as an append reads them. -/
theorem cells_map {w : World} {b off : Nat} {zs : List Int} (h : ∀ (j : Nat) z, zs[j]? = some z → w.cell? ⟨b, off + j, none⟩ = some (.int .i64 z))  (w' : World) (hb : Below w.heap.size w w') : ∀ (j : Nat) u, (ints zs)[j]? = some u → w'.cell? ((⟨b, off, none⟩ : Addr).add j) = some u := by
  intro j u hj
  unfold ints at hj
  rw [List.getElem?_map] at hj
  cases hz : zs[j]? with
  | none => rw [hz] at hj; simp at hj
  | some z =>
    rw [hz] at hj
    simp at hj
    subst hj
    have e : (⟨b, off, none⟩ : Addr).add j = ⟨b, off + j, none⟩ := by simp [Addr.add]
    have hc := h j z hz
    rw [e, hb.cell (p := ⟨b, off + j, none⟩) (cell_blk _ _ _ hc)]; exact hc
theorem ints_length (zs : List Int) : (ints zs).length = zs.length := by simp [ints]
theorem ints_append (zs ys : List Int) : ints (zs ++ ys) = ints zs ++ ints ys := by simp [ints]
theorem oneCells (zs : List Int) : ∀ u ∈ ints zs, u.oneCell' = true := by
  intro u hu
  obtain ⟨x, _, rfl⟩ := List.mem_map.1 hu
  rfl
theorem Lies.grown {w w' : World} {lo hi : Nat} {v : Value} {zs : List Int} {row : Option Nat} (H : Lies w lo hi v zs) (hg : w.grownBy w' row) (hr : ∀ g, row = some g → g < lo ∨ hi ≤ g) : Lies w' lo hi v zs := by
  obtain ⟨a, cap, h1, h2, h3, h4, h5⟩ := H
  refine ⟨a, cap, h1, h2, h3, h4, fun j z hj => ?_⟩
  obtain ⟨b, off, e, x, y, hc⟩ := h5 j z hj
  have hb := cell_blk _ _ _ hc
  exact ⟨b, off, e, x, y, by rw [World.cell?_of_block (w := w) (hg.block b hb (fun e => by have := hr b e.symm; omega))]; exact hc⟩
theorem Lies.top {w : World} {lo hi : Nat} {v : Value} {zs : List Int} (H : Lies w lo hi v zs) : Lies w 0 w.heap.size v zs := by
  obtain ⟨a, cap, h1, h2, h3, h4, h5⟩ := H
  refine ⟨a, cap, h1, h2, h3, h4, fun j z hj => ?_⟩
  obtain ⟨b, off, e, x, y, hc⟩ := h5 j z hj
  exact ⟨b, off, e, Nat.zero_le _, cell_blk _ _ _ hc, hc⟩
theorem Below.of_grown {w w' : World} {row : Option Nat} {B : Nat} (hg : w.grownBy w' row) (hB : B ≤ w.heap.size) (hr : ∀ g, row = some g → B ≤ g) : Below B w w' := (Below.refl B w).grown hg hB hr
theorem news_one (w : World) (x : Int) (t : Nat) : ∀ (j : Nat) u, [Value.int .i64 x][j]? = some u → (w.alloc (.cells #[.int .i64 x] t)).cell? ((⟨w.heap.size, 0, none⟩ : Addr).add j) = some u := by
  intro j u hj
  obtain rfl : j = 0 := by have := (List.getElem?_eq_some_iff.1 hj).1; simpa using this
  simp at hj
  subst hj
  simp [Addr.add]
theorem one_one (x : Int) : ∀ u ∈ [Value.int .i64 x], u.oneCell' = true := by simp [Value.oneCell']
theorem owns_below {w w' : World} {base e size n : Nat} {v : Value} {xs : List Value} (H : w.ownsRow base e size v n xs) (hb : Below w.heap.size w w') : w'.ownsRow base e size v n xs := by
  have hg : w.grownBy w' none := ⟨hb.os, hb.tape, hb.output, hb.size, fun k hk _ => hb.block k hk⟩
  refine H.kept hg ?_
  cases v.ownBlock with
  | none => exact .inl rfl
  | some g => exact .inr (by simp)
/-- The length in a slot. -/
def lenOf : Value → Nat | .slice _ n _ => n | _ => 0
theorem Lies.lenOf {w : World} {lo hi : Nat} {v : Value} {zs : List Int} (H : Lies w lo hi v zs) : lenOf v = zs.length := by
  obtain ⟨a, cap, rfl, _⟩ := H
  rfl
theorem lies_nil (w : World) : ∃ zs, Lies w 0 w.heap.size (.slice none 0 0) zs := ⟨[], (Row.nil w 0 w.heap.size none 0 (Nat.zero_le _) (fun _ => rfl)).lies⟩
theorem lies_row (w : World) (x : Addr) (l c : Nat) (zs : List Int) (hl : l ≤ c) (hm : c ≤ maxLen) (hz : zs.length = c) (hcell : ∀ i, i < zs.length → w.cell? (x.add i) = some (.int .i64 (zs.getD i 0))) : ∃ zs, Lies w 0 w.heap.size (.slice (some x) l c) zs := by
  have hlen : (zs.take l).length = l := by rw [List.length_take]; omega
  refine ⟨zs.take l, some x, c, by rw [hlen], by omega, hm, (fun h => by cases h), fun j z hj => ?_⟩
  have hjl := (List.getElem?_eq_some_iff.1 hj).1
  have hc := hcell j (by omega)
  have h0 := hcell 0 (by omega)
  obtain ⟨b, off, spot⟩ := x
  have hspot : spot = none := by simpa [Addr.add] using World.cell?_spot h0
  subst hspot
  have e : (⟨b, off, none⟩ : Addr).add j = ⟨b, off + j, none⟩ := by simp [Addr.add]
  rw [e] at hc
  rw [List.getElem?_take, if_pos (by omega)] at hj
  rw [List.getD_eq_getElem?_getD, hj] at hc
  exact ⟨b, off, rfl, Nat.zero_le _, cell_blk _ _ _ hc, hc⟩
end Go.Proofs.Ytgnoclnenhmakaa
namespace Go.Proofs.Ytgnoclnenhmakaa
set_option maxRecDepth 4000
open Go.RowKit
theorem infoInt : (Try.prog.info? 3).map (fun i => (i.zero, i.size, i.bytes)) = some (some (.int .i64 0), 1, 8) := by kernel_rfl
/-- A call that answers a new row of numbers and a truth. -/
def NewRowB (zs : List Int) (b : Bool) (w : World) (e : Ending) (w' : World) : Prop := ∃ v, e = .returned (.tuple #[v, .bool b]) ∧ Row w' w.heap.size w'.heap.size v zs ∧ Below w.heap.size w w'
/-- A call that answers a new row of numbers. -/
def NewRow (zs : List Int) (w : World) (e : Ending) (w' : World) : Prop := ∃ v, e = .returned v ∧ Row w' w.heap.size w'.heap.size v zs ∧ Below w.heap.size w w'
/-- The numbers from k on, n of them. -/
def upFrom (k : Int) (n : Nat) : List Int := (List.range n).map fun (i : Nat) => k + i
theorem upFrom_length (k : Int) (n : Nat) : (upFrom k n).length = n := by simp [upFrom]
theorem upFrom_get (k : Int) (n i : Nat) (h : i < n) : (upFrom k n)[i]? = some (k + i) := by simp [upFrom, h]
/-- A call that marks a row from k on. -/
def Marks (v : Value) (lo hi n : Nat) (k : Int) (w : World) (e : Ending) (w' : World) : Prop := e = .returned (.int .i64 (k + n)) ∧ Row w' lo hi v (upFrom k n) ∧ Apart lo hi w w'
/-- The first numbers of a list replaced. -/
def over (T zs : List Int) (k : Nat) : List Int := T.take k ++ zs.drop k
theorem over_set (T zs : List Int) (k : Nat) (x : Int) (hl : T.length = zs.length) (h : T[k]? = some x) : (over T zs k).set k x = over T zs (k + 1) := by
  have hk := (List.getElem?_eq_some_iff.1 h).1
  have hl2 : (T.take k).length = k := by simp; omega
  unfold over
  rw [List.set_append_right _ _ (by omega), hl2, Nat.sub_self, List.drop_eq_getElem_cons (by omega), List.set_cons_zero, List.take_add_one, h]
  simp
theorem over_get (T zs : List Int) (k : Nat) (hl : T.length = zs.length) (h : k < zs.length) : (over T zs k)[k]? = zs[k]? := by
  unfold over
  rw [List.getElem?_append_right (by simp; omega), List.length_take, Nat.min_eq_left (by omega), Nat.sub_self, List.getElem?_drop, Nat.add_zero]
theorem over_all (T zs : List Int) (hl : T.length = zs.length) : over T zs zs.length = T := by
  unfold over
  rw [List.drop_length, List.append_nil, List.take_of_length_le (by omega)]
theorem over_zero (T zs : List Int) : over T zs 0 = zs := by simp [over]
theorem over_at (T zs : List Int) (k : Nat) (hl : T.length = zs.length) (h : k < zs.length) : ∃ x, (over T zs k)[k]? = some x := ⟨zs[k], by
  unfold over
  rw [List.getElem?_append_right (by simp; omega), List.length_take, Nat.min_eq_left (by omega), Nat.sub_self, List.getElem?_drop, Nat.add_zero, List.getElem?_eq_getElem h]⟩
end Go.Proofs.Ytgnoclnenhmakaa
