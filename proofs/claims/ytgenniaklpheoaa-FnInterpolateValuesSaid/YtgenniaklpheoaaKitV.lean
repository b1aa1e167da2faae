/-
  The draw of ValuesOf's arguments. No conditions but that the bytes that came in can be read.
-/
import Derived.Test.YtgenniaklpheoaaKitR
import Derived.OwnWalk
namespace Go.Proofs.Ytgenniaklpheoaa
open Go.RowKit
def Draw1nn (w : World) (e : Ending) (w' : World) : Prop := ∃ (v : Value) (zs : List Int) (n c : Int), e = .returned (.tuple #[v, .int .i64 n, .int .i64 c]) ∧ Row w' w.heap.size w'.heap.size v zs ∧ zs.length ≤ 8 ∧ Below w.heap.size w w'
def cntNums : List Int := [-1, 60, 61, 9223372036854775807]
set_option maxHeartbeats 800000 in
theorem drawValuesOf (a : Option Addr) (len cap : Nat) (w : World) (hc : Came w a len cap) (hl : len ≤ 1048576) : Calls Try.prog 38 #[.slice a len cap] w (Draw1nn w) := by
  have HO := hidH (opened_any a len cap w hc hl)
  clear hc
  go_enter Try.func38, Try.ntmps38
  go_wp2_with fail
  refine HO.out.mono ?_
  rintro e w1 ⟨rfl, hR, hB⟩
  have R1 := hidH hR
  have B1 := hidH hB
  have s1 := hB.size
  have hr1 := hR.lt
  clear hR hB HO
  go_wp2_with fail
  refine (open2_any w.heap.size 0 w1 R1.out (by omega)).mono ?_
  rintro e w2 ⟨v, zs, rfl, hrow, h8, hR, hO⟩
  have RW := hidH hrow
  have R2 := hidH hR
  have O2 := hidH hO
  have s2 := hO.size
  clear hrow hR hO
  go_wp2_with fail
  refine (number2_any w.heap.size _ w2 R2.out (by omega)).mono ?_
  rintro e w3 ⟨n, rfl, hR, hO⟩
  have R3 := hidH hR
  have O3 := hidH (O2.out.trans hO)
  have RW3 := hidH (row_onto RW.out hO (by omega))
  have s3 := hO.size
  clear hR hO
  go_wp2_with fail
  refine (pick_any 16 w.heap.size _ w3 R3.out (by omega)).mono ?_
  rintro e w4 ⟨c, rfl, c0, c1, hR, hO⟩
  have R4 := hidH hR
  have O4 := hidH (O3.out.trans hO)
  have RW4 := hidH (row_onto RW3.out hO (by omega))
  have s4 := hO.size
  clear c1 hR hO
  go_wp2_with fail
  refine (pick_any 16 w.heap.size _ w4 R4.out (by omega)).mono ?_
  rintro e w5 ⟨x, rfl, x0, x1, hR, hO⟩
  have R5 := hidH hR
  have O5 := hidH (O4.out.trans hO)
  have RW5 := hidH (row_onto RW4.out hO (by omega))
  have s5 := hO.size
  clear x1 hR hO
  by_cases e0 : x = 0
  · have b0 : (x == 0) = true := beq_iff_eq.2 e0
    clear e0
    go_wp2_with fail
    have hN := num_any w5.heap.size 0 cntNums w.heap.size _ (w5.alloc (.cells (intC cntNums) 3)) (R5.out.onto ((Below.refl _ _).alloc (Nat.le_refl _) _)) (by omega) (by decide) (by decide) (ints_new _ _ _ _ R5.out.lt)
    refine hN.mono ?_
    rintro e w6 ⟨z, hz, rfl, hR, hO⟩
    have O6 := hidH (O5.out.trans (((Onto.refl _ _).alloc (.cells (intC cntNums) 3)).trans hO))
    have RW6 := hidH (row_onto (RW5.out.below ((Below.refl _ _).alloc (Nat.le_refl _) (.cells (intC cntNums) 3))) hO (by omega))
    have HSZ := hidH (show w5.heap.size ≤ w6.heap.size by have := hO.size; simp at this; omega)
    clear hN hz hR hO
    go_wp2_with fail
    go_ret3
    exact ⟨v, zs, n, z, rfl, RW6.out.mono s1 (by have h5 := HSZ.out; omega), h8, B1.out.trans (O6.out.below (Nat.le_refl _) s1)⟩
  · have b0 : (x == 0) = false := beq_eq_false_iff_ne.2 e0
    clear e0
    go_wp2_with fail
    go_ret3
    exact ⟨v, zs, n, c, rfl, RW5.out.mono s1 (by omega), h8, B1.out.trans (O5.out.below (Nat.le_refl _) s1)⟩
end Go.Proofs.Ytgenniaklpheoaa
