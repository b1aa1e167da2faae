/-
  The drawn arguments of the functions of columns: what comes out of any bytes. Conditions: at most 1048576 bytes, which can be read.
-/
import Derived.Test.YtffmhcahiabicaaDoorKitC
namespace Go.Proofs.YtffmhcahiabicaaDoor
set_option maxRecDepth 4000
open Go.RowKit
/-- The widths that are none. -/
def noWides : List Int := [0, 13, -1, 9223372036854775807]
theorem wide_any (r B : Nat) (w : World) (h : Rd w r B) (hB : B ≤ 800000) : Calls Tryd.prog 60 #[.pointer (some ⟨r, 0, none⟩)] w fun e w' => ∃ z : Int, e = .returned (.int .i64 z) ∧ Rd w' r (B + 2) ∧ Onto r w w' := by
  have HP := hidH (pick_any 16 r B w h (by omega))
  clear h
  go_enter Tryd.func60, Tryd.ntmps60
  go_wp2_with fail
  refine HP.out.mono ?_
  rintro e w1 ⟨x, rfl, x0, x1, hR, hO⟩
  have HR := hidH hR
  have HO := hidH hO
  clear hR hO x1 HP
  by_cases e0 : x = 0
  · have b0 : (x == 0) = true := beq_iff_eq.2 e0
    clear e0
    go_wp2_with fail
    refine (num_any w1.heap.size 0 noWides r (B + 1) (w1.alloc (.cells (intC noWides) 3)) (HR.out.onto ((Below.refl _ _).alloc (Nat.le_refl _) _)) (by omega) (by decide) (by decide) (ints_new _ _ _ _ HR.out.lt)).mono ?_
    rintro e w2 ⟨z, _, rfl, hR2, hO2⟩
    have H2 := hidH hR2
    have O2 := hidH (HO.out.trans (((Onto.refl _ _).alloc _).trans hO2))
    clear hR2 hO2 HR HO
    go_wp2
    go_ret
    exact ⟨z, rfl, H2.out, O2.out⟩
  · have b0 : (x == 0) = false := beq_eq_false_iff_ne.2 e0
    clear e0
    go_wp2_with fail
    refine (any_any r (B + 1) w1 HR.out (by omega)).mono ?_
    rintro e w2 ⟨n, _, _, rfl, hR2, hO2⟩
    have H2 := hidH hR2
    have O2 := hidH (HO.out.trans hO2)
    clear hR2 hO2 HR HO
    go_wp2
    go_ret
    exact ⟨n, rfl, H2.out, O2.out⟩
section
variable (a : Option Addr) (len cap : Nat) (w : World) (hl : len ≤ 1048576) (hcap : len ≤ cap) (hcap2 : cap ≤ 9223372036854775807) (hb : Bytes w a len) (hnil : a = none → cap = 0)
include hl hcap hcap2 hb hnil
/-- A drawn text. -/
def DrawnT (w : World) (e : Ending) (w' : World) : Prop := ∃ s : ByteArray, s.size ≤ 100 ∧ e = .returned (.string s) ∧ Below w.heap.size w w'
/-- Two drawn texts. -/
def DrawnTT (w : World) (e : Ending) (w' : World) : Prop := ∃ s t : ByteArray, s.size ≤ 100 ∧ t.size ≤ 100 ∧ e = .returned (.tuple #[.string s, .string t]) ∧ Below w.heap.size w w'
/-- Two drawn numbers. -/
def DrawnNN (w : World) (e : Ending) (w' : World) : Prop := ∃ x y : Int, e = .returned (.tuple #[.int .i64 x, .int .i64 y]) ∧ Below w.heap.size w w'
/-- A drawn text and a drawn number. -/
def DrawnTN (w : World) (e : Ending) (w' : World) : Prop := ∃ (s : ByteArray) (y : Int), s.size ≤ 100 ∧ e = .returned (.tuple #[.string s, .int .i64 y]) ∧ Below w.heap.size w w'
end
end Go.Proofs.YtffmhcahiabicaaDoor
