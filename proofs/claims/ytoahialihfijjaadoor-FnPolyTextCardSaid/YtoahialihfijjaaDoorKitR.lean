/-
  The drawn arguments of functions on polynomials. Condition: at most 1048576 bytes.
-/
import Derived.Test.YtoahialihfijjaaDoorKitQ
namespace Go.Proofs.YtoahialihfijjaaDoor
set_option maxRecDepth 4000
open Go.RowKit
/-- A drawn slice. -/
def Draw1 (w : World) (e : Ending) (w' : World) : Prop := ∃ (v : Value) (zs : List Int), e = .returned v ∧ Row w' w.heap.size w'.heap.size v zs ∧ zs.length ≤ 8 ∧ Below w.heap.size w w'
/-- A drawn slice and a drawn number. -/
def Draw1n (w : World) (e : Ending) (w' : World) : Prop := ∃ (v : Value) (zs : List Int) (n : Int), e = .returned (.tuple #[v, .int .i64 n]) ∧ Row w' w.heap.size w'.heap.size v zs ∧ zs.length ≤ 8 ∧ Below w.heap.size w w'
/-- Two drawn slices, apart from each other. -/
def Draw2 (w : World) (e : Ending) (w' : World) : Prop := ∃ (v u : Value) (zs ys : List Int) (m : Nat), e = .returned (.tuple #[v, u]) ∧ Row w' w.heap.size m v zs ∧ Row w' m w'.heap.size u ys ∧ zs.length ≤ 8 ∧ ys.length ≤ 8 ∧ m ≤ w'.heap.size ∧ Below w.heap.size w w'
/-- Two drawn numbers. -/
def DrawNN (w : World) (e : Ending) (w' : World) : Prop := ∃ n k : Int, e = .returned (.tuple #[.int .i64 n, .int .i64 k]) ∧ Below w.heap.size w w'
theorem opened_any (a : Option Addr) (len cap : Nat) (w : World) (hc : Came w a len cap) (hl : len ≤ 1048576) : Calls Tryd.prog 19 #[.slice a len cap] w (Opened w) :=
  open_any a len cap w hl hc.lenLe (by have := hc.capLe; unfold maxLen at this; omega) hc.bytes hc.ofNil
theorem row_onto {w w' : World} {r l h : Nat} {v : Value} {zs : List Int} (H : Row w l h v zs) (ho : Onto r w w') (hr : r < l) : Row w' l h v zs := H.apart (Apart.of_onto ho (Nat.le_refl _) (Nat.lt_succ_self _)) (.inr (by omega))
theorem drawFormatPoly (a : Option Addr) (len cap : Nat) (w : World) (hc : Came w a len cap) (hl : len ≤ 1048576) : Calls Tryd.prog 6 #[.slice a len cap] w (Draw1 w) := by
  have HO := hidH (opened_any a len cap w hc hl)
  clear hc
  go_enter Tryd.func6, Tryd.ntmps6
  go_wp2_with fail
  refine HO.out.mono ?_
  rintro e w1 ⟨rfl, hR, hB⟩
  have R1 := hidH hR
  have B1 := hidH hB
  have s1 := hB.size
  have hr1 := hR.lt
  clear hR hB HO
  go_wp2_with fail
  refine (open2_any w.heap.size 0 w1 R1.out (by omega)).mono ?_
  rintro e w2 ⟨v, zs, rfl, hrow, h8, hR, hO⟩
  have RW := hidH hrow
  have R2 := hidH hR
  have O2 := hidH hO
  have s2 := hO.size
  clear hrow hR hO
  go_wp2_with fail
  go_ret
  exact ⟨v, zs, rfl, RW.out.mono s1 (Nat.le_refl _), h8, B1.out.trans (O2.out.below (Nat.le_refl _) s1)⟩
def sumNums : List Int := [100000, 100001, -100001, 9223372036854775807]
def stepNums : List Int := [0, 10, 11, -1]
def binNums : List Int := [-1, 7, 9223372036854775807]
end Go.Proofs.YtoahialihfijjaaDoor
