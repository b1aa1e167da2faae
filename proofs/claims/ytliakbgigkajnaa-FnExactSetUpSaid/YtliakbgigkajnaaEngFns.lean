/-
  The laws' own functions on engines: a copy, equality, marks and whether they still stand, and the size. Condition: at most 1048576 columns.
-/
import Derived.Test.YtliakbgigkajnaaSsFns
import Derived.Test.YtliakbgigkajnaaEngBox
namespace Go.Proofs.Ytliakbgigkajnaa
set_option maxRecDepth 4000
set_option linter.unusedVariables false
open Go.RowKit
/-- What the size of a list of texts leaves. -/
def Sized (zs : List ByteArray) (left : Nat) (w : World) (e : Ending) (w' : World) : Prop :=
  ∃ r : Int, e = .returned (.int .i64 r) ∧ (r = -1 ∨ (∃ m : Nat, r = m ∧ m ≤ left) ∧ zs.length ≤ left ∧ ∀ z ∈ zs, z.size ≤ left) ∧ Below w.heap.size w w'
/-- A call that answers a new engine. -/
def NewEng (zs : List ByteArray) (w : World) (e : Ending) (w' : World) : Prop := ∃ v, e = .returned (.agg #[v]) ∧ RowS w' w.heap.size w'.heap.size v zs ∧ Below w.heap.size w w'
/-- A call that answers a new engine and a truth. -/
def NewEngB (zs : List ByteArray) (b : Bool) (w : World) (e : Ending) (w' : World) : Prop := ∃ v, e = .returned (.tuple #[.agg #[v], .bool b]) ∧ RowS w' w.heap.size w'.heap.size v zs ∧ Below w.heap.size w w'
theorem eqEng_yes (v u : Value) (zs : List ByteArray) (w : World) (l1 h1 l2 h2 : Nat) (hv : LiesS w l1 h1 v zs) (hu : LiesS w l2 h2 u zs) : Calls Try.prog 8 #[.agg #[v], .agg #[u]] w (Gives (.bool true) w) := by
  have HS := hidH (fun W (h1' : LiesS W l1 h1 v zs) (h2' : LiesS W l2 h2 u zs) => eqTexts_yes v u zs W l1 h1 l2 h2 h1' h2')
  have HL1 := hidH hv
  have HL2 := hidH hu
  obtain ⟨a, cap, rfl⟩ := hv.some
  obtain ⟨a2, cap2, rfl⟩ := hu.some
  clear hv hu
  have BB := hidH ((bMore ((bMore (Below.refl w.heap.size w) (.cells #[.slice a zs.length cap] 25))) (.cells #[.slice a2 zs.length cap2] 25)))
  go_enter Try.func8, Try.ntmps8
  go_wp2_with fail
  refine (HS.out _ (HL1.out.below BB.out) (HL2.out.below BB.out)).mono ?_; rintro e w1 ⟨rfl, hb⟩
  have HB := hidH (bThen BB.out hb)
  clear hb
  go_wp2
  go_ret
  exact ⟨rfl, HB.out⟩
theorem markEng_any (v : Value) (zs : List ByteArray) (k0 : Nat) (w : World) (lo hi : Nat) (hv : RowS w lo hi v zs) (hk1 : 1 ≤ k0) (hk0 : k0 ≤ 4194304) (hn : zs.length ≤ 1048576) : Calls Try.prog 11 #[.agg #[v], .int .i64 k0] w (MarksS v lo hi zs.length k0 w) := by
  have HS := hidH (fun W (h : RowS W lo hi v zs) => markTexts_any v zs k0 W lo hi h hk1 hk0 hn)
  have HL := hidH hv
  obtain ⟨a, cap, rfl⟩ := hv.some
  clear hv
  have BB := hidH ((bMore (Below.refl w.heap.size w) (.cells #[.slice a zs.length cap] 25)))
  go_enter Try.func11, Try.ntmps11
  go_wp2_with fail
  refine (HS.out _ (HL.out.below BB.out)).mono ?_; rintro e w1 ⟨rfl, hr, ha⟩
  have HR := hidH hr
  have HA := hidH ((Apart.of_below (lo := lo) (hi := hi) BB.out).trans ha)
  clear hr ha
  go_wp2
  go_ret
  exact ⟨rfl, HR.out, HA.out⟩
theorem heldEng_any (v : Value) (k0 : Nat) (n : Nat) (w : World) (lo hi : Nat) (hv : LiesS w lo hi v (upT k0 n)) (hk1 : 1 ≤ k0) (hk0 : k0 ≤ 4194304) (hn : n ≤ 1048576) : Calls Try.prog 12 #[.agg #[v], .int .i64 k0] w (Gives (.int .i64 ((k0 + n : Nat) : Int)) w) := by
  have HS := hidH (fun W (h : LiesS W lo hi v (upT k0 n)) => heldTexts_any v k0 n W lo hi h hk1 hk0 hn)
  have HL := hidH hv
  obtain ⟨a, cap, rfl⟩ := hv.some
  clear hv
  have BB := hidH ((bMore (Below.refl w.heap.size w) (.cells #[.slice a (upT k0 n).length cap] 25)))
  go_enter Try.func12, Try.ntmps12
  go_wp2_with fail
  refine (HS.out _ (HL.out.below BB.out)).mono ?_; rintro e w1 ⟨rfl, hb⟩
  have HB := hidH (bThen BB.out hb)
  clear hb
  go_wp2
  go_ret
  exact ⟨rfl, HB.out⟩
end Go.Proofs.Ytliakbgigkajnaa
