/-
  The drawn arguments of functions on polynomials. Condition: at most 1048576 bytes.
-/
import Derived.Test.YtgenniaklpheoaaKitQ
namespace Go.Proofs.Ytgenniaklpheoaa
set_option maxRecDepth 4000
open Go.RowKit
/-- A drawn slice. -/
def Draw1 (w : World) (e : Ending) (w' : World) : Prop := ∃ (v : Value) (zs : List Int), e = .returned v ∧ Row w' w.heap.size w'.heap.size v zs ∧ zs.length ≤ 8 ∧ Below w.heap.size w w'
/-- A drawn slice and a drawn number. -/
def Draw1n (w : World) (e : Ending) (w' : World) : Prop := ∃ (v : Value) (zs : List Int) (n : Int), e = .returned (.tuple #[v, .int .i64 n]) ∧ Row w' w.heap.size w'.heap.size v zs ∧ zs.length ≤ 8 ∧ Below w.heap.size w w'
/-- Two drawn slices, apart from each other. -/
def Draw2 (w : World) (e : Ending) (w' : World) : Prop := ∃ (v u : Value) (zs ys : List Int) (m : Nat), e = .returned (.tuple #[v, u]) ∧ Row w' w.heap.size m v zs ∧ Row w' m w'.heap.size u ys ∧ zs.length ≤ 8 ∧ ys.length ≤ 8 ∧ m ≤ w'.heap.size ∧ Below w.heap.size w w'
/-- Two drawn numbers. -/
def DrawNN (w : World) (e : Ending) (w' : World) : Prop := ∃ n k : Int, e = .returned (.tuple #[.int .i64 n, .int .i64 k]) ∧ Below w.heap.size w w'
theorem opened_any (a : Option Addr) (len cap : Nat) (w : World) (hc : Came w a len cap) (hl : len ≤ 1048576) : Calls Try.prog 53 #[.slice a len cap] w (Opened w) :=
  open_any a len cap w hl hc.lenLe (by have := hc.capLe; unfold maxLen at this; omega) hc.bytes hc.ofNil
theorem row_onto {w w' : World} {r l h : Nat} {v : Value} {zs : List Int} (H : Row w l h v zs) (ho : Onto r w w') (hr : r < l) : Row w' l h v zs := H.apart (Apart.of_onto ho (Nat.le_refl _) (Nat.lt_succ_self _)) (.inr (by omega))
theorem drawFromPowers (a : Option Addr) (len cap : Nat) (w : World) (hc : Came w a len cap) (hl : len ≤ 1048576) : Calls Try.prog 23 #[.slice a len cap] w (Draw1 w) := by
  have HO := hidH (opened_any a len cap w hc hl)
  clear hc
  go_enter Try.func23, Try.ntmps23
  go_wp2_with fail
  refine HO.out.mono ?_
  rintro e w1 ⟨rfl, hR, hB⟩
  have R1 := hidH hR
  have B1 := hidH hB
  have s1 := hB.size
  have hr1 := hR.lt
  clear hR hB HO
  go_wp2_with fail
  refine (open2_any w.heap.size 0 w1 R1.out (by omega)).mono ?_
  rintro e w2 ⟨v, zs, rfl, hrow, h8, hR, hO⟩
  have RW := hidH hrow
  have R2 := hidH hR
  have O2 := hidH hO
  have s2 := hO.size
  clear hrow hR hO
  go_wp2_with fail
  go_ret
  exact ⟨v, zs, rfl, RW.out.mono s1 (Nat.le_refl _), h8, B1.out.trans (O2.out.below (Nat.le_refl _) s1)⟩
theorem drawPowersOf (a : Option Addr) (len cap : Nat) (w : World) (hc : Came w a len cap) (hl : len ≤ 1048576) : Calls Try.prog 27 #[.slice a len cap] w (Draw1 w) := by
  have HO := hidH (opened_any a len cap w hc hl)
  clear hc
  go_enter Try.func27, Try.ntmps27
  go_wp2_with fail
  refine HO.out.mono ?_
  rintro e w1 ⟨rfl, hR, hB⟩
  have R1 := hidH hR
  have B1 := hidH hB
  have s1 := hB.size
  have hr1 := hR.lt
  clear hR hB HO
  go_wp2_with fail
  refine (open2_any w.heap.size 0 w1 R1.out (by omega)).mono ?_
  rintro e w2 ⟨v, zs, rfl, hrow, h8, hR, hO⟩
  have RW := hidH hrow
  have R2 := hidH hR
  have O2 := hidH hO
  have s2 := hO.size
  clear hrow hR hO
  go_wp2_with fail
  go_ret
  exact ⟨v, zs, rfl, RW.out.mono s1 (Nat.le_refl _), h8, B1.out.trans (O2.out.below (Nat.le_refl _) s1)⟩
def sumNums : List Int := [100000, 100001, -100001, 9223372036854775807]
def stepNums : List Int := [0, 10, 11, -1]
set_option maxHeartbeats 800000 in
theorem drawStepPoly (a : Option Addr) (len cap : Nat) (w : World) (hc : Came w a len cap) (hl : len ≤ 1048576) : Calls Try.prog 18 #[.slice a len cap] w (Draw1n w) := by
  have HO := hidH (opened_any a len cap w hc hl)
  clear hc
  go_enter Try.func18, Try.ntmps18
  go_wp2_with fail
  refine HO.out.mono ?_
  rintro e w1 ⟨rfl, hR, hB⟩
  have R1 := hidH hR
  have B1 := hidH hB
  have s1 := hB.size
  have hr1 := hR.lt
  clear hR hB HO
  go_wp2_with fail
  refine (open2_any w.heap.size 0 w1 R1.out (by omega)).mono ?_
  rintro e w2 ⟨v, zs, rfl, hrow, h8, hR, hO⟩
  have RW := hidH hrow
  have R2 := hidH hR
  have O2 := hidH hO
  have s2 := hO.size
  clear hrow hR hO
  go_wp2_with fail
  refine (pick_any 12 w.heap.size _ w2 R2.out (by omega)).mono ?_
  rintro e w3 ⟨x, rfl, x0, x1, hR, hO⟩
  have R3 := hidH hR
  have O3 := hidH (O2.out.trans hO)
  have RW3 := hidH (row_onto RW.out hO (by omega))
  have s3 := hO.size
  clear x1 hR hO
  by_cases e0 : x = 0
  · have b0 : (x == 0) = true := beq_iff_eq.2 e0
    clear e0
    go_wp2_with fail
    have hN := num_any w3.heap.size 0 stepNums w.heap.size (0 + 18 + 1) (w3.alloc (.cells (intC stepNums) 3)) (R3.out.onto ((Below.refl _ _).alloc (Nat.le_refl _) _)) (by omega) (by decide) (by decide) (ints_new _ _ _ _ R3.out.lt)
    refine hN.mono ?_
    rintro e w4 ⟨z, hz, rfl, hR, hO⟩
    have O4 := hidH (O3.out.trans (((Onto.refl _ _).alloc (.cells (intC stepNums) 3)).trans hO))
    have RW4 := hidH (row_onto (RW3.out.below ((Below.refl _ _).alloc (Nat.le_refl _) (.cells (intC stepNums) 3))) hO (by omega))
    have HSZ := hidH (show w3.heap.size ≤ w4.heap.size by have := hO.size; simp at this; omega)
    clear hN hz hR hO
    go_wp2_with fail
    go_ret2
    exact ⟨v, zs, z, rfl, RW4.out.mono s1 (by have h5 := HSZ.out; omega), h8, B1.out.trans (O4.out.below (Nat.le_refl _) s1)⟩
  · have b0 : (x == 0) = false := beq_eq_false_iff_ne.2 e0
    clear e0
    go_wp2_with fail
    refine (pick_any 5 w.heap.size _ w3 R3.out (by omega)).mono ?_
    rintro e w4 ⟨y, rfl, y0, y1, hR, hO⟩
    have y2 := y1 (by omega)
    have O4 := hidH (O3.out.trans hO)
    have RW4 := hidH (row_onto RW3.out hO (by omega))
    have s4 := hO.size
    clear y1 hR hO
    go_wp2_with fail
    go_ret2
    exact ⟨v, zs, 1 + y, rfl, RW4.out.mono s1 (by omega), h8, B1.out.trans (O4.out.below (Nat.le_refl _) s1)⟩
theorem drawAddPolys (a : Option Addr) (len cap : Nat) (w : World) (hc : Came w a len cap) (hl : len ≤ 1048576) : Calls Try.prog 44 #[.slice a len cap] w (Draw2 w) := by
  have HO := hidH (opened_any a len cap w hc hl)
  clear hc
  go_enter Try.func44, Try.ntmps44
  go_wp2_with fail
  refine HO.out.mono ?_
  rintro e w1 ⟨rfl, hR, hB⟩
  have R1 := hidH hR
  have B1 := hidH hB
  have s1 := hB.size
  have hr1 := hR.lt
  clear hR hB HO
  go_wp2_with fail
  refine (open2_any w.heap.size 0 w1 R1.out (by omega)).mono ?_
  rintro e w2 ⟨v, zs, rfl, hrow, h8, hR, hO⟩
  have RW := hidH hrow
  have R2 := hidH hR
  have O2 := hidH hO
  have s2 := hO.size
  clear hrow hR hO
  go_wp2_with fail
  refine (open2_any w.heap.size _ w2 R2.out (by omega)).mono ?_
  rintro e w3 ⟨u, ys, rfl, hrow, h9, hR, hO⟩
  have RV := hidH hrow
  have R3 := hidH hR
  have O3 := hidH hO
  have s3 := hO.size
  clear hrow hR hO
  have RW3 := hidH (row_onto RW.out O3.out (by omega))
  go_wp2_with fail
  go_ret2
  exact ⟨v, u, zs, ys, w2.heap.size, rfl, RW3.out.mono s1 (Nat.le_refl _), RV.out, h8, h9, s3, (B1.out.trans (O2.out.below (Nat.le_refl _) s1)).trans (O3.out.below (Nat.le_refl _) (by omega))⟩
def binNums : List Int := [-1, 7, 9223372036854775807]
end Go.Proofs.Ytgenniaklpheoaa
