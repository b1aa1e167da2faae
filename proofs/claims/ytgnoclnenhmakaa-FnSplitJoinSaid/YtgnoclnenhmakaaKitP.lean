/-
  The reader of drawn inputs: numbers, polynomials, and slices that are sometimes none. Condition: the reader has been asked at most 900,000 times.
  Drawn slices that are sometimes no polynomials, and the arguments of functions on polynomials. Condition: the reader has been asked at most 800,000 times.
  The drawn arguments of functions on polynomials. Condition: at most 1048576 bytes.
  The draw of MulPolys' arguments. No conditions but that the bytes that came in can be read.
  The draw of ValuesOf's arguments. No conditions but that the bytes that came in can be read.
-/
import Derived.Test.YtgnoclnenhmakaaKitA
import Derived.Test.YtgnoclnenhmakaaSl
import Derived.Laws.AppendOwn
import Derived.Laws.OwnMore
import Derived.OwnWalk
namespace Go.Proofs.Ytgnoclnenhmakaa
set_option maxRecDepth 4000
open Go.RowKit
/-- Blocks below base stand but for block r, and new blocks may have come. -/
structure OntoB (r base : Nat) (w w' : World) : Prop where
  os : w'.os = w.os
  tape : w'.tape = w.tape
  output : w'.output = w.output
  size : w.heap.size ≤ w'.heap.size
  block : ∀ k, k < base → k ≠ r → w'.heap[k]? = w.heap[k]?
theorem Onto.toB {r base : Nat} {w w' : World} (h : Onto r w w') (hb : base ≤ w.heap.size) : OntoB r base w w' := ⟨h.os, h.tape, h.output, h.size, fun k hk hr => h.block k (by omega) hr⟩
theorem OntoB.onto {r : Nat} {w w' : World} (h : OntoB r w.heap.size w w') : Onto r w w' := ⟨h.os, h.tape, h.output, h.size, h.block⟩
theorem OntoB.trans {r base : Nat} {a b c : World} (h : OntoB r base a b) (k : OntoB r base b c) : OntoB r base a c :=
  ⟨k.os.trans h.os, k.tape.trans h.tape, k.output.trans h.output, Nat.le_trans h.size k.size, fun j hj hr => (k.block j hj hr).trans (h.block j hj hr)⟩
theorem OntoB.of_below {r base : Nat} {a b : World} (h : Below base a b) : OntoB r base a b := ⟨h.os, h.tape, h.output, h.size, fun k hk _ => h.block k hk⟩
theorem OntoB.down {r base c : Nat} {a b : World} (h : OntoB r base a b) (hc : c ≤ base) : OntoB r c a b := ⟨h.os, h.tape, h.output, h.size, fun k hk hr => h.block k (by omega) hr⟩
theorem Rd.low {w w' : World} {r B : Nat} (h : Rd w r B) (hb : Below (r + 1) w w') : Rd w' r B := by
  obtain ⟨a, len, cap, p, hp, hl, hr, h0, h1, hf, hd⟩ := h
  refine ⟨a, len, cap, p, hp, hl, Nat.lt_of_lt_of_le hr hb.size, ?_, ?_, ?_, fun j hj => ?_⟩
  · rw [hb.cell (p := ⟨r, 0, none⟩) (Nat.lt_succ_self r)]; exact h0
  · rw [hb.cell (p := ⟨r, 1, none⟩) (Nat.lt_succ_self r)]; exact h1
  · rw [hb.frozen (p := ⟨r, 1, none⟩) (Nat.lt_succ_self r)]; exact hf
  · obtain ⟨b, off, x, e, hlt, x1, x2, hc⟩ := hd j hj
    exact ⟨b, off, x, e, hlt, x1, x2, by rw [hb.cell (p := ⟨b, off + j, none⟩) (by show b < _; omega)]; exact hc⟩
theorem owns_onto {w w' : World} {r base e size n : Nat} {v : Value} {xs : List Value} (H : w.ownsRow base e size v n xs) (ho : Onto r w w') (hr : r < base) : w'.ownsRow base e size v n xs := by
  have hg : w.grownBy w' (some r) := ⟨ho.os, ho.tape, ho.output, ho.size, fun k hk hne => ho.block k hk (fun h => hne (by rw [h]))⟩
  refine H.kept hg ?_
  cases hv : v.ownBlock with
  | none => exact .inl rfl
  | some g => exact .inr (fun h => by injection h with h; have := (H.lt g hv).1; omega)
/-- A drawn number. -/
def NumD (r B : Nat) (w : World) (e : Ending) (w' : World) : Prop := ∃ z : Int, e = .returned (.int .i64 z) ∧ Rd w' r (B + 3) ∧ Onto r w w'
def farNums : List Int := [200, 201, -200, -201, 9223372036854775807, -9223372036854775808]
def sizes4 : List Int := [10, 100, 1000, 3]
/-- A drawn row of numbers. -/
def SomeRow (r B : Nat) (w : World) (e : Ending) (w' : World) : Prop := ∃ (v : Value) (zs : List Int), e = .returned v ∧ w'.ownsRow w.heap.size 3 1 v zs.length (ints zs) ∧ 1 ≤ zs.length ∧ zs.length ≤ 6 ∧ Rd w' r (B + 15) ∧ Onto r w w'
theorem prod_65025 (x y : Int) (x0 : 0 ≤ x) (x1 : x < 256) (y0 : 0 ≤ y) (y1 : y < 256) : 0 ≤ x * y ∧ x * y ≤ 65025 := by
  have h := Int.mul_nonneg x0 y0
  have h2 : (x * y).natAbs ≤ 255 * 255 := by rw [Int.natAbs_mul]; exact Nat.mul_le_mul (by omega) (by omega)
  omega
end Go.Proofs.Ytgnoclnenhmakaa
namespace Go.Proofs.Ytgnoclnenhmakaa
set_option maxRecDepth 4000
open Go.RowKit
theorem owns_form {w : World} {base e n : Nat} {v : Value} {xs : List Value} (H : w.ownsRow base e 1 v n xs) (h : 1 ≤ n) : ∃ g cap, v = .slice (some ⟨g, 0, none⟩) n cap ∧ n ≤ cap ∧ cap ≤ maxLen ∧ base ≤ g ∧ g < w.heap.size := by
  obtain ⟨_, ⟨_, h0⟩ | ⟨g, cap, cur, rfl, hg, hh, hn, hc, _, _⟩⟩ := H
  · omega
  · exact ⟨g, cap, rfl, hn, hc, hg, (Array.getElem?_eq_some_iff.1 hh).1⟩
/-- A drawn slice that is sometimes none. -/
def BadRow (r B base : Nat) (w : World) (e : Ending) (w' : World) : Prop := ∃ (v : Value) (zs : List Int), e = .returned v ∧ Row w' base w'.heap.size v zs ∧ zs.length ≤ 8 ∧ Rd w' r (B + 3) ∧ OntoB r base w w'
def badNums : List Int := [100000, 100001, -100000, -100001, 9223372036854775807]
/-- A drawn slice that is sometimes no polynomial. -/
def OpenRow (r B : Nat) (w : World) (e : Ending) (w' : World) : Prop := ∃ (v : Value) (zs : List Int), e = .returned v ∧ Row w' w.heap.size w'.heap.size v zs ∧ zs.length ≤ 8 ∧ Rd w' r (B + 18) ∧ Onto r w w'
end Go.Proofs.Ytgnoclnenhmakaa
namespace Go.Proofs.Ytgnoclnenhmakaa
set_option maxRecDepth 4000
open Go.RowKit
/-- A drawn slice. -/
def Draw1 (w : World) (e : Ending) (w' : World) : Prop := ∃ (v : Value) (zs : List Int), e = .returned v ∧ Row w' w.heap.size w'.heap.size v zs ∧ zs.length ≤ 8 ∧ Below w.heap.size w w'
/-- A drawn slice and a drawn number. -/
def Draw1n (w : World) (e : Ending) (w' : World) : Prop := ∃ (v : Value) (zs : List Int) (n : Int), e = .returned (.tuple #[v, .int .i64 n]) ∧ Row w' w.heap.size w'.heap.size v zs ∧ zs.length ≤ 8 ∧ Below w.heap.size w w'
/-- Two drawn slices, apart from each other. -/
def Draw2 (w : World) (e : Ending) (w' : World) : Prop := ∃ (v u : Value) (zs ys : List Int) (m : Nat), e = .returned (.tuple #[v, u]) ∧ Row w' w.heap.size m v zs ∧ Row w' m w'.heap.size u ys ∧ zs.length ≤ 8 ∧ ys.length ≤ 8 ∧ m ≤ w'.heap.size ∧ Below w.heap.size w w'
/-- Two drawn numbers. -/
def DrawNN (w : World) (e : Ending) (w' : World) : Prop := ∃ n k : Int, e = .returned (.tuple #[.int .i64 n, .int .i64 k]) ∧ Below w.heap.size w w'
theorem opened_any (a : Option Addr) (len cap : Nat) (w : World) (hc : Came w a len cap) (hl : len ≤ 1048576) : Calls Try.prog 28 #[.slice a len cap] w (Opened w) :=
  open_any a len cap w hl hc.lenLe (by have := hc.capLe; unfold maxLen at this; omega) hc.bytes hc.ofNil
theorem row_onto {w w' : World} {r l h : Nat} {v : Value} {zs : List Int} (H : Row w l h v zs) (ho : Onto r w w') (hr : r < l) : Row w' l h v zs := H.apart (Apart.of_onto ho (Nat.le_refl _) (Nat.lt_succ_self _)) (.inr (by omega))
def sumNums : List Int := [100000, 100001, -100001, 9223372036854775807]
def stepNums : List Int := [0, 10, 11, -1]
def binNums : List Int := [-1, 7, 9223372036854775807]
end Go.Proofs.Ytgnoclnenhmakaa
namespace Go.Proofs.Ytgnoclnenhmakaa
set_option maxRecDepth 4000
open Go.RowKit
/-- Two drawn rows of numbers, which may lie in longer ones. -/
def Draw2L (w : World) (e : Ending) (w' : World) : Prop := ∃ (v u : Value) (zs ys : List Int), e = .returned (.tuple #[v, u]) ∧ Lies w' 0 w'.heap.size v zs ∧ Lies w' 0 w'.heap.size u ys ∧ zs.length ≤ 8 ∧ ys.length ≤ 8 ∧ Below w.heap.size w w'
end Go.Proofs.Ytgnoclnenhmakaa
namespace Go.Proofs.Ytgnoclnenhmakaa
set_option maxRecDepth 4000
open Go.RowKit
def Draw1nn (w : World) (e : Ending) (w' : World) : Prop := ∃ (v : Value) (zs : List Int) (n c : Int), e = .returned (.tuple #[v, .int .i64 n, .int .i64 c]) ∧ Row w' w.heap.size w'.heap.size v zs ∧ zs.length ≤ 8 ∧ Below w.heap.size w w'
def cntNums : List Int := [-1, 60, 61, 9223372036854775807]
end Go.Proofs.Ytgnoclnenhmakaa
