/-
  The drawn arguments of the functions of columns: what comes out of any bytes. Conditions: at most 1048576 bytes, which can be read.
-/
import Derived.Test.YtckmnclpediliaaDoorKitD
namespace Go.Proofs.YtckmnclpediliaaDoor
set_option maxRecDepth 4000
open Go.RowKit
/-- The widths that are none. -/
def noWides : List Int := [0, 13, -1, 9223372036854775807]
section
variable (a : Option Addr) (len cap : Nat) (w : World) (hl : len ≤ 1048576) (hcap : len ≤ cap) (hcap2 : cap ≤ 9223372036854775807) (hb : Bytes w a len) (hnil : a = none → cap = 0)
include hl hcap hcap2 hb hnil
/-- A drawn text. -/
def DrawnT (w : World) (e : Ending) (w' : World) : Prop := ∃ s : ByteArray, s.size ≤ 100 ∧ e = .returned (.string s) ∧ Below w.heap.size w w'
/-- Two drawn texts. -/
def DrawnTT (w : World) (e : Ending) (w' : World) : Prop := ∃ s t : ByteArray, s.size ≤ 100 ∧ t.size ≤ 100 ∧ e = .returned (.tuple #[.string s, .string t]) ∧ Below w.heap.size w w'
/-- Two drawn numbers. -/
def DrawnNN (w : World) (e : Ending) (w' : World) : Prop := ∃ x y : Int, e = .returned (.tuple #[.int .i64 x, .int .i64 y]) ∧ Below w.heap.size w w'
/-- A drawn text and a drawn number. -/
def DrawnTN (w : World) (e : Ending) (w' : World) : Prop := ∃ (s : ByteArray) (y : Int), s.size ≤ 100 ∧ e = .returned (.tuple #[.string s, .int .i64 y]) ∧ Below w.heap.size w w'
theorem drawAddColumns_any : Calls Tryd.prog 9 #[.slice a len cap] w (DrawnTT w) := by
  have HO := hidH (open_any a len cap w hl hcap hcap2 hb hnil)
  clear hb hnil
  go_enter Tryd.func9, Tryd.ntmps9
  go_wp2_with fail
  refine HO.out.mono ?_
  rintro e w1 ⟨rfl, hR, hB⟩
  have HR := hidH hR
  have HB := hidH hB
  clear hR hB
  go_wp2_with fail
  refine (any_any w.heap.size 0 w1 HR.out (by omega)).mono ?_
  rintro e w2 ⟨n, n1, n2, rfl, hR2, hO2⟩
  have R2 := hidH hR2
  have O2 := hidH hO2
  clear hR2 hO2
  go_wp2_with fail
  refine (some_any n w.heap.size _ w2 R2.out (by omega) n1 n2).mono ?_
  rintro e w3 ⟨s, hs, rfl, hR3, hO3⟩
  have R3 := hidH hR3
  have O3 := hidH (O2.out.trans hO3)
  clear hR3 hO3
  go_wp2_with fail
  refine (bad_any s hs w.heap.size _ w3 R3.out (by omega)).mono ?_
  rintro e w4 ⟨t, ht, rfl, hR4, hO4⟩
  have R4 := hidH hR4
  have O4 := hidH (O3.out.trans hO4)
  clear hR4 hO4
  go_wp2_with fail
  refine (some_any n w.heap.size _ w4 R4.out (by omega) n1 n2).mono ?_
  rintro e w5 ⟨s', hs', rfl, hR5, hO5⟩
  have R5 := hidH hR5
  have O5 := hidH (O4.out.trans hO5)
  clear hR5 hO5
  go_wp2_with fail
  refine (bad_any s' hs' w.heap.size _ w5 R5.out (by omega)).mono ?_
  rintro e w6 ⟨t', ht', rfl, hR6, hO6⟩
  have O6 := hidH (O5.out.trans hO6)
  clear hR6 hO6
  go_wp2
  first | go_ret | go_ret2
  exact ⟨t, t', by omega, by omega, rfl, HB.out.trans (O6.out.below (Nat.le_refl _) HB.out.size)⟩
theorem drawCarryTimes_any : Calls Tryd.prog 4 #[.slice a len cap] w (DrawnTT w) := by
  have HO := hidH (drawAddColumns_any a len cap w hl hcap hcap2 hb hnil)
  clear hb hnil
  go_enter Tryd.func4, Tryd.ntmps4
  go_wp2_with fail
  refine HO.out.mono ?_
  rintro e w1 ⟨s, t, hs, ht, rfl, hB⟩
  go_wp2
  first | go_ret | go_ret2
  exact ⟨s, t, hs, ht, rfl, hB⟩
end
end Go.Proofs.YtckmnclpediliaaDoor
