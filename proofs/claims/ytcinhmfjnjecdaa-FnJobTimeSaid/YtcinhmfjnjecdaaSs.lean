/-
  Slices of texts in memory: what lies behind them, what stands when blocks between two numbers are written, and rows that a call makes and writes. No conditions.
  The laws' own functions on slices of texts: a copy, equality, marks and whether they still stand, and the size. Condition: slices of at most 1048576 texts.
-/
import Derived.Test.YtcinhmfjnjecdaaSl
import Derived.Test.YtcinhmfjnjecdaaStrMath
import Derived.BigQuiet
import Derived.BigRegion
namespace Go.Proofs.Ytcinhmfjnjecdaa
set_option maxRecDepth 4000
open Go.RowKit
/-- The slice v holds the texts zs, in a block from lo on and below hi. -/
def LiesS (w : World) (lo hi : Nat) (v : Value) (zs : List ByteArray) : Prop :=
  ∃ (a : Option Addr) (cap : Nat), v = .slice a zs.length cap ∧ zs.length ≤ cap ∧ cap ≤ maxLen ∧ (a = none → cap = 0) ∧
    ∀ (j : Nat) z, zs[j]? = some z → ∃ b off, a = some ⟨b, off, none⟩ ∧ lo ≤ b ∧ b < hi ∧ w.cell? ⟨b, off + j, none⟩ = some (.string z)
/-- The slice v is a row of its own that holds the texts zs and can be written. -/
def RowS (w : World) (lo hi : Nat) (v : Value) (zs : List ByteArray) : Prop :=
  ∃ (a : Option Addr) (cap : Nat), v = .slice a zs.length cap ∧ zs.length ≤ cap ∧ cap ≤ maxLen ∧ (a = none → cap = 0) ∧
    ∀ (j : Nat) z, zs[j]? = some z → ∃ b, a = some ⟨b, 0, none⟩ ∧ lo ≤ b ∧ b < hi ∧ w.cell? ⟨b, j, none⟩ = some (.string z) ∧ w.frozen? ⟨b, j, none⟩ = false
theorem RowS.lies {w : World} {lo hi : Nat} {v : Value} {zs : List ByteArray} (h : RowS w lo hi v zs) : LiesS w lo hi v zs := by
  obtain ⟨a, cap, h1, h2, h3, h4, h5⟩ := h
  refine ⟨a, cap, h1, h2, h3, h4, fun j z hj => ?_⟩
  obtain ⟨b, e, x, y, hc, _⟩ := h5 j z hj
  exact ⟨b, 0, e, x, y, by rw [Nat.zero_add]; exact hc⟩
theorem LiesS.apart {w w' : World} {lo hi l h : Nat} {v : Value} {zs : List ByteArray} (H : LiesS w l h v zs) (hA : Apart lo hi w w') (hd : h ≤ lo ∨ hi ≤ l) : LiesS w' l h v zs := by
  obtain ⟨a, cap, h1, h2, h3, h4, h5⟩ := H
  refine ⟨a, cap, h1, h2, h3, h4, fun j z hj => ?_⟩
  obtain ⟨b, off, e, x, y, hc⟩ := h5 j z hj
  have hb := cell_blk _ _ _ hc
  exact ⟨b, off, e, x, y, by rw [World.cell?_of_block (w := w) (hA.block b hb (by omega))]; exact hc⟩
theorem RowS.apart {w w' : World} {lo hi l h : Nat} {v : Value} {zs : List ByteArray} (H : RowS w l h v zs) (hA : Apart lo hi w w') (hd : h ≤ lo ∨ hi ≤ l) : RowS w' l h v zs := by
  obtain ⟨a, cap, h1, h2, h3, h4, h5⟩ := H
  refine ⟨a, cap, h1, h2, h3, h4, fun j z hj => ?_⟩
  obtain ⟨b, e, x, y, hc, hf⟩ := h5 j z hj
  have hb := cell_blk _ _ _ hc
  have hk := hA.block b hb (by omega)
  exact ⟨b, e, x, y, by rw [World.cell?_of_block (w := w) hk]; exact hc, by rw [World.frozen?_of_block (w := w) hk]; exact hf⟩
theorem LiesS.below {w w' : World} {l h : Nat} {v : Value} {zs : List ByteArray} (H : LiesS w l h v zs) (hb : Below w.heap.size w w') : LiesS w' l h v zs := H.apart (lo := h) (hi := h) (Apart.of_below hb) (Or.inl (Nat.le_refl _))
theorem RowS.below {w w' : World} {l h : Nat} {v : Value} {zs : List ByteArray} (H : RowS w l h v zs) (hb : Below w.heap.size w w') : RowS w' l h v zs := H.apart (lo := h) (hi := h) (Apart.of_below hb) (Or.inl (Nat.le_refl _))
theorem LiesS.mono {w : World} {l h l' h' : Nat} {v : Value} {zs : List ByteArray} (H : LiesS w l h v zs) (hl : l' ≤ l) (hh : h ≤ h') : LiesS w l' h' v zs := by
  obtain ⟨a, cap, h1, h2, h3, h4, h5⟩ := H
  refine ⟨a, cap, h1, h2, h3, h4, fun j z hj => ?_⟩
  obtain ⟨b, off, e, x, y, hc⟩ := h5 j z hj
  exact ⟨b, off, e, by omega, by omega, hc⟩
theorem RowS.mono {w : World} {l h l' h' : Nat} {v : Value} {zs : List ByteArray} (H : RowS w l h v zs) (hl : l' ≤ l) (hh : h ≤ h') : RowS w l' h' v zs := by
  obtain ⟨a, cap, h1, h2, h3, h4, h5⟩ := H
  refine ⟨a, cap, h1, h2, h3, h4, fun j z hj => ?_⟩
  obtain ⟨b, e, x, y, hc⟩ := h5 j z hj
  exact ⟨b, e, by omega, by omega, hc⟩
/-- A slice without texts. -/
theorem RowS.nil (w : World) (lo hi : Nat) (a : Option Addr) (cap : Nat) (hc : cap ≤ maxLen) (ha : a = none → cap = 0) : RowS w lo hi (.slice a 0 cap) [] := ⟨a, cap, rfl, Nat.zero_le _, hc, ha, fun _ _ h => by simp at h⟩
/-- Block b holds texts and can be written. -/
def BlkS (w : World) (b : Nat) (zs : List ByteArray) : Prop := b < w.heap.size ∧ ∀ (j : Nat) z, zs[j]? = some z → w.cell? ⟨b, j, none⟩ = some (.string z) ∧ w.frozen? ⟨b, j, none⟩ = false
theorem BlkS.row {w : World} {b : Nat} {zs : List ByteArray} (H : BlkS w b zs) {lo hi cap : Nat} (hl : lo ≤ b) (hh : b < hi) (hc : zs.length ≤ cap) (hm : cap ≤ maxLen) {n : Nat} (hn : n = zs.length) : RowS w lo hi (.slice (some ⟨b, 0, none⟩) n cap) zs :=
  ⟨some ⟨b, 0, none⟩, cap, by rw [hn], hc, hm, (fun h => by cases h), fun j z hj => ⟨b, rfl, hl, hh, H.2 j z hj⟩⟩
theorem BlkS.drewN {w : World} {b : Nat} {zs : List ByteArray} (H : BlkS w b zs) (q : Nat) : BlkS (w.drewN q) b zs := ⟨H.1, fun j z hj => by rw [World.cell?_drewN]; simpa using H.2 j z hj⟩
theorem BlkS.apart {w w' : World} {lo hi b : Nat} {zs : List ByteArray} (H : BlkS w b zs) (hA : Apart lo hi w w') (hd : b < lo ∨ hi ≤ b) : BlkS w' b zs := by
  have hk := hA.block b H.1 (by omega)
  refine ⟨Nat.lt_of_lt_of_le H.1 hA.size, fun j z hj => ?_⟩
  obtain ⟨x, y⟩ := H.2 j z hj
  exact ⟨by rw [World.cell?_of_block (w := w) hk]; exact x, by rw [World.frozen?_of_block (w := w) hk]; exact y⟩
theorem BlkS.below {w w' : World} {b : Nat} {zs : List ByteArray} (H : BlkS w b zs) (hb : Below w.heap.size w w') : BlkS w' b zs := H.apart (lo := 0) (hi := 0) (Apart.of_below hb) (Or.inr (Nat.zero_le _))
theorem BlkS.made (w : World) (t n : Nat) : BlkS (w.alloc (.cells (madeCells #[Value.string ⟨#[]⟩] n) t)) w.heap.size (List.replicate n ⟨#[]⟩) := by
  refine ⟨by simp, fun j z hj => ⟨?_, cells_frozen _ _ _ _⟩⟩
  have hlt : j < n := by have := (List.getElem?_eq_some_iff.1 hj).1; simpa using this
  obtain rfl : z = ⟨#[]⟩ := by
    rw [List.getElem?_replicate, if_pos hlt] at hj
    injection hj with hj; exact hj.symm
  rw [World.cell?_alloc_at _ _ _ _ rfl]
  simp [madeCells, hlt, Nat.mod_one]
theorem BlkS.lit (w : World) (t : Nat) (zs : List ByteArray) : BlkS (w.alloc (.cells (zs.map (Value.string)).toArray t)) w.heap.size zs := by
  refine ⟨by simp, fun j z hj => ⟨?_, cells_frozen _ _ _ _⟩⟩
  rw [World.cell?_alloc_at _ _ _ _ rfl]
  simp [hj]
theorem BlkS.set {w : World} {b : Nat} {zs : List ByteArray} (H : BlkS w b zs) (k : Nat) (x : ByteArray) : BlkS (w.setCell ⟨b, k, none⟩ (.string x)) b (zs.set k x) := by
  refine ⟨by simpa [World.setCell] using H.1, fun j z hj => ?_⟩
  rw [List.getElem?_set] at hj
  by_cases e : k = j
  · subst e
    rw [if_pos rfl] at hj
    by_cases hk : k < zs.length
    · rw [if_pos hk] at hj
      injection hj with hj
      subst hj
      obtain ⟨hc, hf⟩ := H.2 k _ (List.getElem?_eq_getElem hk)
      exact ⟨World.cell?_setCell_same _ _ _ hc, by simpa using hf⟩
    · rw [if_neg hk] at hj; simp at hj
  · rw [if_neg e] at hj
    obtain ⟨hc, hf⟩ := H.2 j z hj
    exact ⟨by rw [World.cell?_setCell_other _ _ _ _ (by intro h; injection h; omega)]; exact hc, by simpa using hf⟩
theorem RowS.blk {w : World} {lo hi : Nat} {v : Value} {zs : List ByteArray} (H : RowS w lo hi v zs) (h0 : 0 < zs.length) : ∃ b cap, v = .slice (some ⟨b, 0, none⟩) zs.length cap ∧ zs.length ≤ cap ∧ cap ≤ maxLen ∧ lo ≤ b ∧ b < hi ∧ BlkS w b zs := by
  obtain ⟨a, cap, h1, h2, h3, h4, h5⟩ := H
  obtain ⟨b, e, x, y, hc, _⟩ := h5 0 _ (List.getElem?_eq_getElem h0)
  subst e
  refine ⟨b, cap, h1, h2, h3, x, y, cell_blk _ _ _ hc, fun j z hj => ?_⟩
  obtain ⟨b', e, _, _, k⟩ := h5 j z hj
  injection e with e; injection e with e
  subst e
  exact k
/-- The first k texts of a list, and zeros for the others. -/
def fillS (T : List ByteArray) (k : Nat) : List ByteArray := T.take k ++ List.replicate (T.length - k) ⟨#[]⟩
theorem fill_zeroS (T : List ByteArray) : fillS T 0 = List.replicate T.length ⟨#[]⟩ := by simp [fillS]
theorem fill_lengthS (T : List ByteArray) (k : Nat) (h : k ≤ T.length) : (fillS T k).length = T.length := by simp [fillS]; omega
theorem fill_allS (T : List ByteArray) : fillS T T.length = T := by simp [fillS]
theorem fill_atS (T : List ByteArray) (k : Nat) (h : k < T.length) : (fillS T k)[k]? = some ⟨#[]⟩ := by
  unfold fillS
  rw [List.getElem?_append_right (by simp; omega), List.length_take, Nat.min_eq_left (by omega), Nat.sub_self, List.getElem?_replicate, if_pos (by omega)]
theorem fill_setS (T : List ByteArray) (k : Nat) (x : ByteArray) (h : T[k]? = some x) : (fillS T k).set k x = fillS T (k + 1) := by
  have hk := (List.getElem?_eq_some_iff.1 h).1
  have hl : (T.take k).length = k := by simp; omega
  unfold fillS
  rw [List.set_append_right _ _ (by omega), hl, Nat.sub_self]
  obtain ⟨m, hm⟩ : ∃ m, T.length - k = m + 1 := ⟨T.length - k - 1, by omega⟩
  rw [hm, List.replicate_succ, List.set_cons_zero, show T.length - (k + 1) = m by omega, List.take_add_one, h]
  simp
/-- Numbers as the cells of an append. -/
def intsS (zs : List ByteArray) : List Value := zs.map (Value.string)
/-- What a slice of the call's own holds, as a row. -/
theorem row_of_ownsS {w : World} {lo e : Nat} {v : Value} {n : Nat} {zs : List ByteArray} (h : w.ownsRow lo e 1 v n (intsS zs)) : RowS w lo w.heap.size v zs ∧ zs.length = n := by
  unfold intsS at h
  obtain ⟨hl, hv⟩ := h
  rw [List.length_map, Nat.mul_one] at hl
  refine ⟨?_, hl⟩
  rcases hv with ⟨rfl, rfl⟩ | ⟨g, cap, cur, rfl, hg, hh, hn, hc, hsz, ht⟩
  · obtain rfl : zs = [] := List.eq_nil_of_length_eq_zero hl
    exact RowS.nil _ _ _ _ _ (Nat.zero_le _) (fun _ => rfl)
  · have hlt : g < w.heap.size := (Array.getElem?_eq_some_iff.1 hh).1
    refine ⟨some ⟨g, 0, none⟩, cap, by rw [hl], by omega, hc, (fun h => by cases h), fun j z hj => ⟨g, rfl, hg, hlt, ?_⟩⟩
    have hjn := (List.getElem?_eq_some_iff.1 hj).1
    have e1 : (zs.map (Value.string))[j]? = some (.string z) := by rw [List.getElem?_map, hj]; rfl
    rw [← ht, List.getElem?_take, if_pos (by omega), Array.getElem?_toList] at e1
    have hb : w.heap[g] = Obj.cells cur e (0, 0) := by
      have := (Array.getElem?_eq_some_iff.1 hh).2; exact this
    constructor
    · simp [World.cell?, hh, e1]
    · simp [World.frozen?, hh]
theorem LiesS.addr {w : World} {lo hi : Nat} {v : Value} {zs : List ByteArray} (H : LiesS w lo hi v zs) (h0 : 0 < zs.length) : ∃ b off cap, v = .slice (some ⟨b, off, none⟩) zs.length cap ∧ zs.length ≤ cap ∧ cap ≤ maxLen ∧ lo ≤ b ∧ b < hi ∧ b < w.heap.size ∧ ∀ (j : Nat) z, zs[j]? = some z → w.cell? ⟨b, off + j, none⟩ = some (.string z) := by
  obtain ⟨a, cap, h1, h2, h3, h4, h5⟩ := H
  obtain ⟨b, off, e, x, y, hc⟩ := h5 0 _ (List.getElem?_eq_getElem h0)
  subst e
  refine ⟨b, off, cap, h1, h2, h3, x, y, cell_blk _ _ _ hc, fun j z hj => ?_⟩
  obtain ⟨b', off', e, _, _, k⟩ := h5 j z hj
  injection e with e; injection e with e1 e2
  subst e1; subst e2
  exact k
theorem lies_ofS {w : World} {lo hi b off n cap : Nat} {zs : List ByteArray} (hn : n = zs.length) (hc : zs.length ≤ cap) (hm : cap ≤ maxLen) (hl : lo ≤ b) (hh : b < hi) (h : ∀ (j : Nat) z, zs[j]? = some z → w.cell? ⟨b, off + j, none⟩ = some (.string z)) : LiesS w lo hi (.slice (some ⟨b, off, none⟩) n cap) zs :=
  ⟨some ⟨b, off, none⟩, cap, by rw [hn], hc, hm, (fun h => by cases h), fun j z hj => ⟨b, off, rfl, hl, hh, h j z hj⟩⟩
theorem lies_takeS {w : World} {lo hi b off cap : Nat} {zs : List ByteArray} (n : Nat) (hn : n ≤ zs.length) (hc : zs.length ≤ cap) (hm : cap ≤ maxLen) (hl : lo ≤ b) (hh : b < hi) (h : ∀ (j : Nat) z, zs[j]? = some z → w.cell? ⟨b, off + j, none⟩ = some (.string z)) : LiesS w lo hi (.slice (some ⟨b, off, none⟩) n cap) (zs.take n) :=
  lies_ofS (by rw [List.length_take]; omega) (by rw [List.length_take]; omega) hm hl hh fun j z hj => by
    have hjn : j < n := by have := (List.getElem?_eq_some_iff.1 hj).1; rw [List.length_take] at this; omega
    rw [List.getElem?_take, if_pos hjn] at hj
    exact h j z hj
theorem lies_dropS {w : World} {lo hi b off cap : Nat} {zs : List ByteArray} (n m c : Nat) (hm' : m = zs.length - n) (hcn : c = cap - n) (hc : zs.length ≤ cap) (hm : cap ≤ maxLen) (hl : lo ≤ b) (hh : b < hi) (h : ∀ (j : Nat) z, zs[j]? = some z → w.cell? ⟨b, off + j, none⟩ = some (.string z)) : LiesS w lo hi (.slice (some ⟨b, off + n, none⟩) m c) (zs.drop n) :=
  lies_ofS (by rw [List.length_drop]; exact hm') (by rw [List.length_drop]; omega) (by omega) hl hh fun j z hj => by
    rw [List.getElem?_drop] at hj
    have := h (n + j) z hj
    rwa [← Nat.add_assoc] at this
/-- The cells behind an address, as an append reads them. -/
theorem cells_mapS {w : World} {b off : Nat} {zs : List ByteArray} (h : ∀ (j : Nat) z, zs[j]? = some z → w.cell? ⟨b, off + j, none⟩ = some (.string z))  (w' : World) (hb : Below w.heap.size w w') : ∀ (j : Nat) u, (intsS zs)[j]? = some u → w'.cell? ((⟨b, off, none⟩ : Addr).add j) = some u := by
  intro j u hj
  unfold intsS at hj
  rw [List.getElem?_map] at hj
  cases hz : zs[j]? with
  | none => rw [hz] at hj; simp at hj
  | some z =>
    rw [hz] at hj
    simp at hj
    subst hj
    have e : (⟨b, off, none⟩ : Addr).add j = ⟨b, off + j, none⟩ := by simp [Addr.add]
    have hc := h j z hz
    rw [e, hb.cell (p := ⟨b, off + j, none⟩) (cell_blk _ _ _ hc)]; exact hc
theorem ints_lengthS (zs : List ByteArray) : (intsS zs).length = zs.length := by simp [intsS]
theorem ints_appendS (zs ys : List ByteArray) : intsS (zs ++ ys) = intsS zs ++ intsS ys := by simp [intsS]
theorem oneCellsS (zs : List ByteArray) : ∀ u ∈ intsS zs, u.oneCell' = true := by
  intro u hu
  obtain ⟨x, _, rfl⟩ := List.mem_map.1 hu
  rfl
theorem LiesS.grown {w w' : World} {lo hi : Nat} {v : Value} {zs : List ByteArray} {row : Option Nat} (H : LiesS w lo hi v zs) (hg : w.grownBy w' row) (hr : ∀ g, row = some g → g < lo ∨ hi ≤ g) : LiesS w' lo hi v zs := by
  obtain ⟨a, cap, h1, h2, h3, h4, h5⟩ := H
  refine ⟨a, cap, h1, h2, h3, h4, fun j z hj => ?_⟩
  obtain ⟨b, off, e, x, y, hc⟩ := h5 j z hj
  have hb := cell_blk _ _ _ hc
  exact ⟨b, off, e, x, y, by rw [World.cell?_of_block (w := w) (hg.block b hb (fun e => by have := hr b e.symm; omega))]; exact hc⟩
theorem LiesS.top {w : World} {lo hi : Nat} {v : Value} {zs : List ByteArray} (H : LiesS w lo hi v zs) : LiesS w 0 w.heap.size v zs := by
  obtain ⟨a, cap, h1, h2, h3, h4, h5⟩ := H
  refine ⟨a, cap, h1, h2, h3, h4, fun j z hj => ?_⟩
  obtain ⟨b, off, e, x, y, hc⟩ := h5 j z hj
  exact ⟨b, off, e, Nat.zero_le _, cell_blk _ _ _ hc, hc⟩
theorem news_oneS (w : World) (x : ByteArray) (t : Nat) : ∀ (j : Nat) u, [Value.string x][j]? = some u → (w.alloc (.cells #[.string x] t)).cell? ((⟨w.heap.size, 0, none⟩ : Addr).add j) = some u := by
  intro j u hj
  obtain rfl : j = 0 := by have := (List.getElem?_eq_some_iff.1 hj).1; simpa using this
  simp at hj
  subst hj
  simp [Addr.add]
theorem one_oneS (x : ByteArray) : ∀ u ∈ [Value.string x], u.oneCell' = true := by simp [Value.oneCell']
theorem LiesS.lenOf {w : World} {lo hi : Nat} {v : Value} {zs : List ByteArray} (H : LiesS w lo hi v zs) : lenOf v = zs.length := by
  obtain ⟨a, cap, rfl, _⟩ := H
  rfl
end Go.Proofs.Ytcinhmfjnjecdaa
namespace Go.Proofs.Ytcinhmfjnjecdaa
set_option maxRecDepth 4000
open Go.RowKit
theorem infoText : (Try.prog.info? 9).map (fun i => (i.zero, i.size, i.bytes)) = some (some (.string ⟨#[]⟩), 1, 16) := by kernel_rfl
/-- A call that answers a new row of texts. -/
def NewTexts (zs : List ByteArray) (w : World) (e : Ending) (w' : World) : Prop := ∃ v, e = .returned v ∧ RowS w' w.heap.size w'.heap.size v zs ∧ Below w.heap.size w w'
/-- A call that answers the opposite: two texts differ. -/
theorem bytes_ne (z y : ByteArray) (h : z ≠ y) : (z.toList == y.toList) = false := by
  rw [beq_eq_false_iff_ne]
  intro e
  apply h
  rw [Lib.toList_data, Lib.toList_data] at e
  exact ByteArray.ext (Array.toList_inj.1 e)
/-- The first texts of a list replaced. -/
def overS (T zs : List ByteArray) (k : Nat) : List ByteArray := T.take k ++ zs.drop k
theorem over_setS (T zs : List ByteArray) (k : Nat) (x : ByteArray) (hl : T.length = zs.length) (h : T[k]? = some x) : (overS T zs k).set k x = overS T zs (k + 1) := by
  have hk := (List.getElem?_eq_some_iff.1 h).1
  have hl2 : (T.take k).length = k := by simp; omega
  unfold overS
  rw [List.set_append_right _ _ (by omega), hl2, Nat.sub_self, List.drop_eq_getElem_cons (by omega), List.set_cons_zero, List.take_add_one, h]
  simp
theorem over_getS (T zs : List ByteArray) (k : Nat) (hl : T.length = zs.length) (h : k < zs.length) : (overS T zs k)[k]? = zs[k]? := by
  unfold overS
  rw [List.getElem?_append_right (by simp; omega), List.length_take, Nat.min_eq_left (by omega), Nat.sub_self, List.getElem?_drop, Nat.add_zero]
theorem over_allS (T zs : List ByteArray) (hl : T.length = zs.length) : overS T zs zs.length = T := by
  unfold overS
  rw [List.drop_length, List.append_nil, List.take_of_length_le (by omega)]
theorem over_zeroS (T zs : List ByteArray) : overS T zs 0 = zs := by simp [overS]
theorem over_atS (T zs : List ByteArray) (k : Nat) (hl : T.length = zs.length) (h : k < zs.length) : ∃ x, (overS T zs k)[k]? = some x := ⟨zs[k], by
  unfold overS
  rw [List.getElem?_append_right (by simp; omega), List.length_take, Nat.min_eq_left (by omega), Nat.sub_self, List.getElem?_drop, Nat.add_zero, List.getElem?_eq_getElem h]⟩
/-- The mark of a number. -/
def mkT (n : Nat) : ByteArray := ⟨(109 :: Lib.decDigits n).toArray⟩
/-- The marks from k on, n of them. -/
def upT (k n : Nat) : List ByteArray := (List.range n).map fun (i : Nat) => mkT (k + i)
theorem upT_length (k : Nat) (n : Nat) : (upT k n).length = n := by simp [upT]
theorem upT_get (k : Nat) (n i : Nat) (h : i < n) : (upT k n)[i]? = some (mkT (k + i)) := by simp [upT, h]
/-- A call that marks a row from k on. -/
def MarksS (v : Value) (lo hi n : Nat) (k : Nat) (w : World) (e : Ending) (w' : World) : Prop := e = .returned (.int .i64 ((k + n : Nat) : Int)) ∧ RowS w' lo hi v (upT k n) ∧ Apart lo hi w w'
/-- The bytes of all texts. -/
def sizeS (zs : List ByteArray) : Nat := (zs.map (·.size)).sum
end Go.Proofs.Ytcinhmfjnjecdaa
