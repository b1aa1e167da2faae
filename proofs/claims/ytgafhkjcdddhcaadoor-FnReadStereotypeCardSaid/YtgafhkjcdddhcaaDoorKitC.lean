/-
  The reader of drawn inputs: widths, texts out of lists, columns, and strings that are sometimes none. Condition: the reader has been asked at most 900,000 times.
  Drawn columns and drawn strings that are sometimes none. Condition: the reader has been asked at most 800,000 times.
-/
import Derived.Test.YtgafhkjcdddhcaaDoorLawB
namespace Go.Proofs.YtgafhkjcdddhcaaDoor
set_option maxRecDepth 4000
open Go.RowKit
/-- The widths of which one is drawn. -/
def wides : List Int := [4, 6, 1, 2, 3, 5, 8, 12]
/-- A drawn width. -/
def Wide1 (r B : Nat) (w : World) (e : Ending) (w' : World) : Prop := ∃ n : Nat, 1 ≤ n ∧ n ≤ 12 ∧ e = .returned (.int .i64 n) ∧ Rd w' r (B + 1) ∧ Onto r w w'
/-- Texts in a slice, apart from block r. -/
def Strs (w : World) (r : Nat) (a : Addr) (ss : List ByteArray) : Prop := a.spot = none ∧ a.block < w.heap.size ∧ a.block ≠ r ∧ ∀ j z, ss[j]? = some z → w.cell? ⟨a.block, a.off + j, none⟩ = some (.string z)
/-- The cells of a list of texts. -/
def strC (ss : List ByteArray) : Array Value := (ss.map Value.string).toArray
theorem strs_new (w : World) (r t : Nat) (ss : List ByteArray) (hr : r < w.heap.size) : Strs (w.alloc (.cells (strC ss) t)) r ⟨w.heap.size, 0, none⟩ ss :=
  ⟨rfl, by simp, by show w.heap.size ≠ r; omega, fun j z h => by
    show (w.alloc (.cells (strC ss) t)).cell? ⟨w.heap.size, 0 + j, none⟩ = _
    rw [Nat.zero_add, World.cell?_alloc_at _ _ _ _ rfl]; simp [strC, h]⟩
/-- What a text out of a list answers. -/
def TextOf (ss : List ByteArray) (r B : Nat) (w : World) (e : Ending) (w' : World) : Prop := ∃ z, z ∈ ss ∧ e = .returned (.string z) ∧ Rd w' r (B + 1) ∧ Onto r w w'
theorem of_any (b off : Nat) (ss : List ByteArray) (r B : Nat) (w : World) (h : Rd w r B) (hB : B ≤ 1000000) (hz : 0 < ss.length) (hz2 : ss.length ≤ 1000) (hi : Strs w r ⟨b, off, none⟩ ss) :
    Calls Tryd.prog 39 #[.pointer (some ⟨r, 0, none⟩), .slice (some ⟨b, off, none⟩) ss.length ss.length] w (TextOf ss r B w) := by
  obtain ⟨_, hbl, hbr, hc⟩ := hi
  have HP := hidH (pick_any ss.length r B w h hB)
  have HC := hidH hc
  clear hc h
  go_enter Tryd.func39, Tryd.ntmps39
  go_wp2_with fail
  refine HP.out.mono ?_
  rintro e w' ⟨x, rfl, x0, x1, hR, hO⟩
  have hx := x1 (by omega)
  clear x1
  obtain ⟨k, rfl⟩ := Int.eq_ofNat_of_zero_le x0
  have hk : k < ss.length := by omega
  obtain ⟨z, hz'⟩ : ∃ z, ss[k]? = some z := ⟨_, List.getElem?_eq_getElem hk⟩
  have hcell : w'.cell? ⟨b, off + k, none⟩ = some (.string z) := by
    rw [hO.cell hbl hbr]; exact HC.out _ _ hz'
  have HM := hidH (List.mem_of_getElem? hz')
  have HR := hidH hR
  have HO := hidH hO
  clear hz' hR hO
  go_wp2
  go_ret
  exact ⟨z, HM.out, rfl, HR.out, HO.out⟩
/-- Block b holds n bytes that can be written. -/
def RowB (w : World) (b n : Nat) : Prop := b < w.heap.size ∧ ∀ j, j < n → (∃ x : Int, 0 ≤ x ∧ x ≤ 255 ∧ w.cell? ⟨b, j, none⟩ = some (.int .u8 x)) ∧ w.frozen? ⟨b, j, none⟩ = false
theorem RowB.fresh (w : World) (n : Nat) : RowB (w.alloc (.cells (byteC n []) 5)) w.heap.size n := by
  refine ⟨by simp, fun j hj => ⟨⟨0, by omega, by omega, ?_⟩, ?_⟩⟩
  · rw [World.cell?_alloc_at _ _ _ _ rfl]; simp [byteC, hj]
  · simp
theorem RowB.onto {w w' : World} {b n r : Nat} (h : RowB w b n) (ho : Onto r w w') (hr : b ≠ r) : RowB w' b n :=
  ⟨Nat.lt_of_lt_of_le h.1 ho.size, fun j hj => by
    have ⟨⟨x, x0, x1, hc⟩, hf⟩ := h.2 j hj
    exact ⟨⟨x, x0, x1, by rw [ho.cell (p := ⟨b, j, none⟩) h.1 hr]; exact hc⟩, by rw [ho.frozen (p := ⟨b, j, none⟩) h.1 hr]; exact hf⟩⟩
theorem setCell_size (w : World) (p : Addr) (v : Value) : (w.setCell p v).heap.size = w.heap.size := by simp
theorem RowB.set {w : World} {b n : Nat} (h : RowB w b n) (i : Nat) (x : Int) (h0 : 0 ≤ x) (h1 : x ≤ 255) : RowB (w.setCell ⟨b, i, none⟩ (.int .u8 x)) b n := by
  refine ⟨by rw [setCell_size]; exact h.1, fun j hj => ?_⟩
  have ⟨⟨y, y0, y1, hc⟩, hf⟩ := h.2 j hj
  refine ⟨?_, by simp [hf]⟩
  by_cases e : i = j
  · subst e
    exact ⟨x, h0, h1, World.cell?_setCell_same _ _ _ hc⟩
  · exact ⟨y, y0, y1, by rw [World.cell?_setCell_other _ _ _ _ (by intro h; injection h; omega)]; exact hc⟩
theorem Rd.set {w : World} {r B b : Nat} (h : Rd w r B) (hb : r < b) (i : Nat) (v : Value) : Rd (w.setCell ⟨b, i, none⟩ v) r B := by
  obtain ⟨a, len, cap, p, hp, hl, hr, h0, h1, hf, hd⟩ := h
  refine ⟨a, len, cap, p, hp, hl, by rw [setCell_size]; exact hr, ?_, ?_, by simp [hf], fun j hj => ?_⟩
  · rw [World.cell?_setCell_other _ _ _ _ (by intro h; injection h; omega)]; exact h0
  · rw [World.cell?_setCell_other _ _ _ _ (by intro h; injection h; omega)]; exact h1
  · obtain ⟨b', off, x, e, hb', x1, x2, hc⟩ := hd j hj
    exact ⟨b', off, x, e, hb', x1, x2, by rw [World.cell?_setCell_other _ _ _ _ (by intro h; injection h; omega)]; exact hc⟩
theorem Rd.drewN {w : World} {r B : Nat} (h : Rd w r B) (q : Nat) : Rd (w.drewN q) r B := h
theorem RowB.drewN {w : World} {b n : Nat} (h : RowB w b n) (q : Nat) : RowB (w.drewN q) b n := h
theorem Onto.setNew {r b : Nat} {w0 w : World} (h : Onto r w0 w) (hb : w0.heap.size ≤ b) (i : Nat) (v : Value) : Onto r w0 (w.setCell ⟨b, i, none⟩ v) := by
  have o := Onto.setCell b i w v
  exact ⟨o.os.trans h.os, o.tape.trans h.tape, o.output.trans h.output, Nat.le_trans h.size o.size, fun k hk hr => (o.block k (Nat.lt_of_lt_of_le hk h.size) (by omega)).trans (h.block k hk hr)⟩
/-- 'string(b)' of a block of bytes. -/
theorem conv_row (w : World) (b n : Nat) (h : RowB w b n) : ∃ s : ByteArray, s.size = n ∧ (convert 22 9 (.slice (some ⟨b, 0, none⟩) n n)).run Tryd.prog w = .ok (.string s) w := by
  have h' : ∀ j : Nat, ∃ c : UInt8, j < n → w.cell? ⟨b, j, none⟩ = some (.int .u8 (c.toNat : Int)) := by
    intro j
    by_cases hj : j < n
    · have ⟨⟨x, x0, x1, hc⟩, _⟩ := h.2 j hj
      refine ⟨UInt8.ofNat x.toNat, fun _ => ?_⟩
      have e : ((UInt8.ofNat x.toNat).toNat : Int) = x := by
        rw [UInt8.toNat_ofNat', Nat.mod_eq_of_lt (by omega)]; omega
      rw [e]; exact hc
    · exact ⟨0, fun h => absurd h hj⟩
  obtain ⟨f, hf⟩ := Classical.axiomOfChoice h'
  have hl : ((List.range n).map f).length = n := by simp
  refine ⟨⟨((List.range n).map f).toArray⟩, by show ((List.range n).map f).toArray.size = n; simp, ?_⟩
  have hq := run_convert_bytes_back (P := Tryd.prog) w 22 9 5 ⟨b, 0, none⟩ n ((List.range n).map f) Tryd.underlying22 Tryd.underlying5 Tryd.underlying9 (fun j hj => by
    have hj' : j < n := by rw [hl] at hj; exact hj
    have e9 : (⟨b, 0, none⟩ : Addr).add j = ⟨b, j, none⟩ := by simp [Addr.add]; omega
    rw [e9, hf j hj']
    simp)
  rw [hl] at hq
  exact hq
/-- A drawn text of at most m bytes, for which the reader is asked at most d times. -/
def Text1 (m d : Nat) (r B : Nat) (w : World) (e : Ending) (w' : World) : Prop := ∃ s : ByteArray, s.size ≤ m ∧ e = .returned (.string s) ∧ Rd w' r (B + d) ∧ Onto r w w'
end Go.Proofs.YtgafhkjcdddhcaaDoor
namespace Go.Proofs.YtgafhkjcdddhcaaDoor
set_option maxRecDepth 4000
open Go.RowKit
theorem u8_le (c : UInt8) : (c.toNat : Int) ≤ 255 := by
  have := UInt8.toNat_lt c
  omega
/-- A text, repeated. -/
theorem many_any (n : Int) (h : n = 12 ∨ n = 13) (w : World) : Calls Tryd.prog 48 #[.string ⟨#[57]⟩, .int .i64 n] w fun e w' => ∃ s : ByteArray, s.size ≤ 13 ∧ e = .returned (.string s) ∧ w = w' := by
  have h0 : (⟨#[57]⟩ : ByteArray).size = 1 := rfl
  have h1 : (⟨#[]⟩ : ByteArray).size = 0 := rfl
  go_enter Tryd.func48, Tryd.ntmps48
  go_wp2
  go_loopw [0, 1, 5] (fun s k o wr => ∃ (S O : ByteArray) (N : Int), s = .string S ∧ o = .string O ∧ k = .int .i64 N ∧ wr = w ∧ (((N = 12 ∨ N = 13) ∧ S.size = 1 ∧ O.size = 0) ∨ (N = 6 ∧ S.size = 2 ∧ O.size ≤ 1) ∨ (N = 3 ∧ S.size = 4 ∧ O.size ≤ 1) ∨ (N = 1 ∧ S.size = 8 ∧ O.size ≤ 5) ∨ (N = 0 ∧ O.size ≤ 13))) (fun _ k _ _ => (intOf k).toNat)
  case atStart => exact ⟨_, _, _, rfl, rfl, rfl, rfl, Or.inl ⟨h, h0, h1⟩⟩
  case round =>
    obtain ⟨S, O, N, rfl, rfl, rfl, rfl, hc⟩ := hrel
    rcases hc with ⟨rfl | rfl, s1, o1⟩ | ⟨rfl, s1, o1⟩ | ⟨rfl, s1, o1⟩ | ⟨rfl, s1, o1⟩ | ⟨rfl, o1⟩
    · go_wp2
      refine ⟨⟨_, _, _, rfl, rfl, rfl, trivial, Or.inr (Or.inl ⟨by decide, by rw [ByteArray.size_append]; omega, by omega⟩)⟩, by decide⟩
    · go_wp2
      refine ⟨⟨_, _, _, rfl, rfl, rfl, trivial, Or.inr (Or.inl ⟨by decide, by rw [ByteArray.size_append]; omega, by rw [ByteArray.size_append]; omega⟩)⟩, by decide⟩
    · go_wp2
      refine ⟨⟨_, _, _, rfl, rfl, rfl, trivial, Or.inr (Or.inr (Or.inl ⟨by decide, by rw [ByteArray.size_append]; omega, by omega⟩))⟩, by decide⟩
    · go_wp2
      refine ⟨⟨_, _, _, rfl, rfl, rfl, trivial, Or.inr (Or.inr (Or.inr (Or.inl ⟨by decide, by rw [ByteArray.size_append]; omega, by rw [ByteArray.size_append]; omega⟩)))⟩, by decide⟩
    · go_wp2
      refine ⟨⟨_, _, _, rfl, rfl, rfl, trivial, Or.inr (Or.inr (Or.inr (Or.inr ⟨by decide, by rw [ByteArray.size_append]; omega⟩)))⟩, by decide⟩
    · go_wp2
      go_ret
      exact ⟨O, o1, rfl, rfl⟩
/-- What makes a column none. -/
def tails : List ByteArray := [⟨#[120]⟩, ⟨#[45]⟩, ⟨#[32]⟩, ⟨#[48]⟩]
end Go.Proofs.YtgafhkjcdddhcaaDoor
