/-
  Differences of a list and its first differences: the program. Condition: slices of at most 1048576 numbers.
-/
import Derived.Test.YtliakbgigkajnaaPolyI
import Derived.Test.YtliakbgigkajnaaSlFns
import Derived.Laws.CopyOwn
import Derived.BigRegion
namespace Go.Proofs.Ytliakbgigkajnaa
set_option maxRecDepth 4000
open Go.RowKit
theorem wrap_i (x : Int) : IntKind.i64.wrap x = wrap64 x := by rw [IntKind.wrap_i64]; unfold wrap64; omega
theorem made_ints (n : Nat) : madeCells #[Value.int .i64 0] n = (ints (List.replicate n 0)).toArray := by
  unfold madeCells ints
  apply Array.ext
  · simp
  · intro i h1 h2
    simp [Nat.mod_one]
theorem blk_of_heap {w : World} {g t : Nat} {zs : List Int} (h : w.heap[g]? = some (.cells (ints zs).toArray t (0, 0))) : Blk w g zs := by
  have hlt : g < w.heap.size := (Array.getElem?_eq_some_iff.1 h).1
  refine ⟨hlt, fun j z hj => ⟨?_, ?_⟩⟩
  · unfold World.cell?
    rw [h]
    simp [ints, hj]
  · unfold World.frozen?
    rw [h]
    simp
theorem splice_whole (A B : List Int) (h : A.length = B.length) : splice (ints A) 0 (ints B) = ints B := by
  simp [splice, ints, h]
theorem fill_row {w : World} {b : Nat} {T : List Int} (H : Blk w b (fill T T.length)) : Blk w b T := by rwa [fill_all] at H
/-- A call that answers a row from lo on and a truth. -/
def RowFrom (lo : Nat) (zs : List Int) (b : Bool) (w : World) (e : Ending) (w' : World) : Prop := ∃ v, e = .returned (.tuple #[v, .bool b]) ∧ Row w' lo w'.heap.size v zs ∧ Below w.heap.size w w'
theorem ifPoly_any (v : Value) (zs : List Int) (w : World) (lo : Nat) (hv : Row w lo w.heap.size v zs) : Calls Try.prog 37 #[v] w (RowFrom lo (resL zs) (polyOk zs) w) := by
  have HV := hidH hv
  clear hv
  cases h : polyOk zs
  · have HZ := hidH h
    have HE := hidH (show resL zs = [] by rw [resL, h]; rfl)
    clear h
    go_enter Try.func37, Try.ntmps37
    go_wp2_with fail
    refine (polyValid_any v zs _ _ _ HV.out.lies).mono ?_; rintro e w1 ⟨rfl, hb⟩
    rw [HZ.out]
    go_wp2_with fail
    go_ret2
    rw [HE.out]
    exact ⟨_, rfl, Row.nil _ _ _ _ _ (Nat.zero_le _) (fun _ => rfl), hb⟩
  · have HZ := hidH h
    have HE := hidH (show resL zs = zs by rw [resL, h]; rfl)
    clear h
    go_enter Try.func37, Try.ntmps37
    go_wp2_with fail
    refine (polyValid_any v zs _ _ _ HV.out.lies).mono ?_; rintro e w1 ⟨rfl, hb⟩
    rw [HZ.out]
    have HB := hidH hb
    clear hb
    go_wp2_with fail
    go_ret2
    rw [HE.out]
    exact ⟨_, rfl, (HV.out.below HB.out).mono (Nat.le_refl _) HB.out.size, HB.out⟩
end Go.Proofs.Ytliakbgigkajnaa
