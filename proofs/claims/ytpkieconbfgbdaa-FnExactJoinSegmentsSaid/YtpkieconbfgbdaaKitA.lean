/-
  The reader of drawn inputs: a pick from n numbers is one of them, and moves the reader alone. Condition: the reader has been asked at most a million times.
  The reader of drawn inputs: opening it, and a number out of a list. Condition: the reader has been asked at most a million times.
-/
import Derived.Test.YtpkieconbfgbdaaBase
import Derived.BigQuiet
import Derived.OpenShut
namespace Go.Proofs.Ytpkieconbfgbdaa
set_option maxRecDepth 4000
open Go.RowKit
/-- Block r is a reader that has been asked at most B times. -/
def Rd (w : World) (r B : Nat) : Prop := ∃ (a : Option Addr) (len cap p : Nat), p ≤ B ∧ len ≤ 2000 ∧ r < w.heap.size ∧
  w.cell? ⟨r, 0, none⟩ = some (.slice a len cap) ∧ w.cell? ⟨r, 1, none⟩ = some (.int .i64 p) ∧ w.frozen? ⟨r, 1, none⟩ = false ∧
  (∀ j, j < len → ∃ b off x, a = some ⟨b, off, none⟩ ∧ b < r ∧ 0 ≤ x ∧ x ≤ 255 ∧ w.cell? ⟨b, off + j, none⟩ = some (.int .u8 x))
/-- What a pick from n numbers answers. -/
def Picked (n : Int) (r B : Nat) (w : World) (e : Ending) (w' : World) : Prop := ∃ x : Int, e = .returned (.int .i64 x) ∧ 0 ≤ x ∧ (1 ≤ n → x < n) ∧ Rd w' r (B + 1) ∧ Onto r w w'
theorem xor_nn (x y : Int) (hx : 0 ≤ x) (hx2 : x < 1000000000000) (hy : 0 ≤ y) (hy2 : y < 1000000000000) : ∃ z : Nat, bits .xor .i64 x y = (z : Int) ∧ z < 1099511627776 := by
  obtain ⟨a, rfl⟩ := Int.eq_ofNat_of_zero_le hx
  obtain ⟨b, rfl⟩ := Int.eq_ofNat_of_zero_le hy
  have hz : a ^^^ b < 2 ^ 40 := Nat.xor_lt_two_pow (by omega) (by omega)
  refine ⟨a ^^^ b, ?_, hz⟩
  show IntKind.i64.wrap ((BitVec.ofInt 64 (a : Int) ^^^ BitVec.ofInt 64 (b : Int)).toNat : Int) = _
  rw [BitVec.toNat_xor, ofInt_u64 a (by omega), ofInt_u64 b (by omega)]
  exact IntWalk.i64_in _ (by omega)
theorem Rd.moved {w : World} {r B : Nat} {a : Option Addr} {len cap p : Nat} (hp : p ≤ B) (hl : len ≤ 2000) (hr : r < w.heap.size)
    (h0 : w.cell? ⟨r, 0, none⟩ = some (.slice a len cap)) (h1 : w.cell? ⟨r, 1, none⟩ = some (.int .i64 p)) (hf : w.frozen? ⟨r, 1, none⟩ = false)
    (hd : ∀ j, j < len → ∃ b off x, a = some ⟨b, off, none⟩ ∧ b < r ∧ 0 ≤ x ∧ x ≤ 255 ∧ w.cell? ⟨b, off + j, none⟩ = some (.int .u8 x)) (q : Nat) :
    Rd ((w.setCell ⟨r, 1, none⟩ (.int .i64 (p + 1))).drewN q) r (B + 1) ∧ Onto r w ((w.setCell ⟨r, 1, none⟩ (.int .i64 (p + 1))).drewN q) := by
  have ho := (Onto.setCell r 1 w (.int .i64 ((p : Int) + 1))).drewN q
  refine ⟨⟨a, len, cap, p + 1, by omega, hl, Nat.lt_of_lt_of_le hr ho.size, ?_, ?_, ?_, ?_⟩, ho⟩
  · rw [World.cell?_drewN, World.cell?_setCell_other _ _ _ _ (by intro h; injection h; omega)]; exact h0
  · rw [World.cell?_drewN, World.cell?_setCell_same _ _ _ h1]; rfl
  · simp [hf]
  · intro j hj
    obtain ⟨b, off, x, e, hb, x1, x2, hc⟩ := hd j hj
    exact ⟨b, off, x, e, hb, x1, x2, by rw [World.cell?_drewN, World.cell?_setCell_other _ _ _ _ (by intro h; injection h; omega)]; exact hc⟩
end Go.Proofs.Ytpkieconbfgbdaa
namespace Go.Proofs.Ytpkieconbfgbdaa
set_option maxRecDepth 4000
open Go.RowKit
/-- A byte slice that came in: nil, or its cells hold bytes. -/
def Bytes (w : World) (a : Option Addr) (len : Nat) : Prop := ∀ j, j < len → ∃ b off x, a = some ⟨b, off, none⟩ ∧ b < w.heap.size ∧ 0 ≤ x ∧ x ≤ 255 ∧ w.cell? ⟨b, off + j, none⟩ = some (.int .u8 x)
/-- A byte slice that came in, with its length and its capacity. -/
structure Came (w : World) (a : Option Addr) (len cap : Nat) : Prop where
  lenLe : len ≤ cap
  capLe : cap ≤ maxLen
  bytes : Bytes w a len
  ofNil : a = none → cap = 0
theorem came_nil (w : World) : Came w none 0 0 := ⟨Nat.le_refl _, Nat.zero_le _, fun _ hj => absurd hj (Nat.not_lt_zero _), fun _ => rfl⟩
theorem cell_lt (w : World) (p : Addr) (v : Value) (h : w.cell? p = some v) : p.block < w.heap.size := by
  unfold World.cell? at h
  split at h
  · rename_i hb
    exact (Array.getElem?_eq_some_iff.1 hb).1
  · simp at h
theorem came_row (w : World) (x : Addr) (l c : Nat) (zs : List Int) (hl : l ≤ c) (hm : c ≤ maxLen) (hz : zs.length = c) (hcell : ∀ i, i < zs.length → w.cell? (x.add i) = some (.int .u8 (zs.getD i 0))) (hwz : ∀ n ∈ zs, (Lit.int .u8 n).wf = true) : Came w (some x) l c := by
  refine ⟨hl, hm, fun j hj => ?_, fun h => by cases h⟩
  obtain ⟨b, off, spot⟩ := x
  have hc := hcell j (by omega)
  have h0 := hcell 0 (by omega)
  have hspot : spot = none := by simpa [Addr.add] using World.cell?_spot h0
  subst hspot
  have e : (⟨b, off, none⟩ : Addr).add j = ⟨b, off + j, none⟩ := by simp [Addr.add]
  rw [e] at hc
  have hb := bounds_u8 (hwz _ (List.getElem_mem (l := zs) (n := j) (by omega)))
  have eg : zs.getD j 0 = zs[j] := by rw [List.getD_eq_getElem?_getD, List.getElem?_eq_getElem (by omega)]; rfl
  rw [eg] at hc
  exact ⟨b, off, zs[j], rfl, cell_lt w _ _ hc, hb.1, hb.2, hc⟩
/-- A call that answers a pointer to a new reader. -/
def Opened (w : World) (e : Ending) (w' : World) : Prop := e = .returned (.pointer (some ⟨w.heap.size, 0, none⟩)) ∧ Rd w' w.heap.size 0 ∧ Below w.heap.size w w'
/-- A slice of numbers lies apart from block r. -/
def Ints (w : World) (r : Nat) (a : Addr) (zs : List Int) : Prop := a.spot = none ∧ a.block < w.heap.size ∧ a.block ≠ r ∧ ∀ j z, zs[j]? = some z → w.cell? ⟨a.block, a.off + j, none⟩ = some (.int .i64 z)
/-- What a number out of a list answers. -/
def OneOf (zs : List Int) (r B : Nat) (w : World) (e : Ending) (w' : World) : Prop := ∃ z, z ∈ zs ∧ e = .returned (.int .i64 z) ∧ Rd w' r (B + 1) ∧ Onto r w w'
theorem Rd.more {w : World} {r B C : Nat} (h : Rd w r B) (hB : B ≤ C) : Rd w r C := by
  obtain ⟨a, len, cap, p, hp, t⟩ := h
  exact ⟨a, len, cap, p, by omega, t⟩
theorem Rd.onto {w w' : World} {r B : Nat} (h : Rd w r B) (hb : Below w.heap.size w w') : Rd w' r B := by
  obtain ⟨a, len, cap, p, hp, hl, hr, h0, h1, hf, hd⟩ := h
  refine ⟨a, len, cap, p, hp, hl, Nat.lt_of_lt_of_le hr hb.size, ?_, ?_, ?_, fun j hj => ?_⟩
  · rw [hb.cell (p := ⟨r, 0, none⟩) hr]; exact h0
  · rw [hb.cell (p := ⟨r, 1, none⟩) hr]; exact h1
  · rw [hb.frozen (p := ⟨r, 1, none⟩) hr]; exact hf
  · obtain ⟨b, off, x, e, hlt, x1, x2, hc⟩ := hd j hj
    exact ⟨b, off, x, e, hlt, x1, x2, by rw [hb.cell (p := ⟨b, off + j, none⟩) (by show b < _; omega)]; exact hc⟩
/-- The cells of a list of numbers. -/
def intC (zs : List Int) : Array Value := (zs.map (Value.int .i64)).toArray
theorem intC_at (zs : List Int) (j : Nat) (z : Int) (h : zs[j]? = some z) : (intC zs)[j]? = some (.int .i64 z) := by simp [intC, h]
theorem ints_new (w : World) (r t : Nat) (zs : List Int) (hr : r < w.heap.size) : Ints (w.alloc (.cells (intC zs) t)) r ⟨w.heap.size, 0, none⟩ zs :=
  ⟨rfl, by simp, by show w.heap.size ≠ r; omega, fun j z h => by
    show (w.alloc (.cells (intC zs) t)).cell? ⟨w.heap.size, 0 + j, none⟩ = _
    rw [Nat.zero_add, World.cell?_alloc_at _ _ _ _ rfl]; exact intC_at zs j z h⟩
theorem Rd.lt {w : World} {r B : Nat} (h : Rd w r B) : r < w.heap.size := by
  obtain ⟨_, _, _, _, _, _, h, _⟩ := h; exact h
end Go.Proofs.Ytpkieconbfgbdaa
