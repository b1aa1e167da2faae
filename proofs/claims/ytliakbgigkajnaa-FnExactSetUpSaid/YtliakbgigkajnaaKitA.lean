/-
  The reader of drawn inputs: a pick from n numbers is one of them, and moves the reader alone. Condition: the reader has been asked at most a million times.
-/
import Derived.Test.YtliakbgigkajnaaBase
import Derived.BigQuiet
namespace Go.Proofs.Ytliakbgigkajnaa
set_option maxRecDepth 4000
open Go.RowKit
/-- Block r is a reader that has been asked at most B times. -/
def Rd (w : World) (r B : Nat) : Prop := ∃ (a : Option Addr) (len cap p : Nat), p ≤ B ∧ len ≤ 2000 ∧ r < w.heap.size ∧
  w.cell? ⟨r, 0, none⟩ = some (.slice a len cap) ∧ w.cell? ⟨r, 1, none⟩ = some (.int .i64 p) ∧ w.frozen? ⟨r, 1, none⟩ = false ∧
  (∀ j, j < len → ∃ b off x, a = some ⟨b, off, none⟩ ∧ b < r ∧ 0 ≤ x ∧ x ≤ 255 ∧ w.cell? ⟨b, off + j, none⟩ = some (.int .u8 x))
/-- What a pick from n numbers answers. -/
def Picked (n : Int) (r B : Nat) (w : World) (e : Ending) (w' : World) : Prop := ∃ x : Int, e = .returned (.int .i64 x) ∧ 0 ≤ x ∧ (1 ≤ n → x < n) ∧ Rd w' r (B + 1) ∧ Onto r w w'
theorem xor_nn (x y : Int) (hx : 0 ≤ x) (hx2 : x < 1000000000000) (hy : 0 ≤ y) (hy2 : y < 1000000000000) : ∃ z : Nat, bits .xor .i64 x y = (z : Int) ∧ z < 1099511627776 := by
  obtain ⟨a, rfl⟩ := Int.eq_ofNat_of_zero_le hx
  obtain ⟨b, rfl⟩ := Int.eq_ofNat_of_zero_le hy
  have hz : a ^^^ b < 2 ^ 40 := Nat.xor_lt_two_pow (by omega) (by omega)
  refine ⟨a ^^^ b, ?_, hz⟩
  show IntKind.i64.wrap ((BitVec.ofInt 64 (a : Int) ^^^ BitVec.ofInt 64 (b : Int)).toNat : Int) = _
  rw [BitVec.toNat_xor, ofInt_u64 a (by omega), ofInt_u64 b (by omega)]
  exact IntWalk.i64_in _ (by omega)
theorem Rd.moved {w : World} {r B : Nat} {a : Option Addr} {len cap p : Nat} (hp : p ≤ B) (hl : len ≤ 2000) (hr : r < w.heap.size)
    (h0 : w.cell? ⟨r, 0, none⟩ = some (.slice a len cap)) (h1 : w.cell? ⟨r, 1, none⟩ = some (.int .i64 p)) (hf : w.frozen? ⟨r, 1, none⟩ = false)
    (hd : ∀ j, j < len → ∃ b off x, a = some ⟨b, off, none⟩ ∧ b < r ∧ 0 ≤ x ∧ x ≤ 255 ∧ w.cell? ⟨b, off + j, none⟩ = some (.int .u8 x)) (q : Nat) :
    Rd ((w.setCell ⟨r, 1, none⟩ (.int .i64 (p + 1))).drewN q) r (B + 1) ∧ Onto r w ((w.setCell ⟨r, 1, none⟩ (.int .i64 (p + 1))).drewN q) := by
  have ho := (Onto.setCell r 1 w (.int .i64 ((p : Int) + 1))).drewN q
  refine ⟨⟨a, len, cap, p + 1, by omega, hl, Nat.lt_of_lt_of_le hr ho.size, ?_, ?_, ?_, ?_⟩, ho⟩
  · rw [World.cell?_drewN, World.cell?_setCell_other _ _ _ _ (by intro h; injection h; omega)]; exact h0
  · rw [World.cell?_drewN, World.cell?_setCell_same _ _ _ h1]; rfl
  · simp [hf]
  · intro j hj
    obtain ⟨b, off, x, e, hb, x1, x2, hc⟩ := hd j hj
    exact ⟨b, off, x, e, hb, x1, x2, by rw [World.cell?_drewN, World.cell?_setCell_other _ _ _ _ (by intro h; injection h; omega)]; exact hc⟩
end Go.Proofs.Ytliakbgigkajnaa
