/-
  The library's concatenation of two slices, and SumPoly: the program and the model, at every argument. Condition: slices of at most 1048576 numbers.
-/
import Derived.Test.YtgnoclnenhmakaaPolyT
import Derived.Test.YtgnoclnenhmakaaPolyV
import Derived.Lib.AppendZeros
import Derived.Laws.AppendOwnNone
namespace Go.Proofs.Ytgnoclnenhmakaa
set_option maxRecDepth 4000
open Go.RowKit
/-- What SumPoly answers. -/
def sumA (zs : List Int) (c : Int) : List Int := if polyOk zs then resL (c :: zs) else []
def sumB (zs : List Int) (c : Int) : Bool := polyOk zs && polyOk (c :: zs)
theorem sumA_len (zs : List Int) (c : Int) : (sumA zs c).length ≤ 1048576 := by unfold sumA; split <;> first | exact resL_len _ | simp
theorem ifP_any (v : Value) (zs : List Int) (w : World) (lo : Nat) (hv : Row w lo w.heap.size v zs) : Calls Try.prog 81 #[v] w fun e w' => ∃ v', e = .returned (.tuple #[v', .bool (polyOk zs)]) ∧ Row w' lo w'.heap.size v' (resL zs) ∧ Below w.heap.size w w' := by
  have HV := hidH hv
  clear hv
  cases h : polyOk zs
  · have HZ := hidH h
    have HE := hidH (show resL zs = [] by rw [resL, h]; rfl)
    clear h
    go_enter Try.func81, Try.ntmps81
    go_wp2_with fail
    refine (polyValid_any v zs _ _ _ HV.out.lies).mono ?_; rintro e w1 ⟨rfl, hb⟩
    rw [HZ.out]
    go_wp2_with fail
    go_ret2
    exact ⟨_, rfl, by rw [HE.out]; exact Row.nil _ _ _ _ _ (Nat.zero_le _) (fun _ => rfl), hb⟩
  · have HZ := hidH h
    have HE := hidH (show resL zs = zs by rw [resL, h]; rfl)
    clear h
    go_enter Try.func81, Try.ntmps81
    go_wp2_with fail
    refine (polyValid_any v zs _ _ _ HV.out.lies).mono ?_; rintro e w1 ⟨rfl, hb⟩
    rw [HZ.out]
    have HB := hidH hb
    clear hb
    go_wp2_with fail
    go_ret2
    exact ⟨_, rfl, by rw [HE.out]; exact (HV.out.below HB.out).mono (Nat.le_refl _) HB.out.size, HB.out⟩
theorem owns_lit (w : World) (c : Int) (e : Nat) : (w.alloc (.cells #[.int .i64 c] e)).ownsRow w.heap.size e 1 (.slice (some ⟨w.heap.size, 0, none⟩) 1 1) 1 (ints [c]) :=
  ⟨rfl, .inr ⟨w.heap.size, 1, #[.int .i64 c], rfl, Nat.le_refl _, heap_alloc_new w _, Nat.le_refl _, by unfold maxLen; decide, rfl, rfl⟩⟩
theorem lies_cells {w : World} {lo hi n cap : Nat} {x : Addr} {zs : List Int} (H : Lies w lo hi (.slice (some x) n cap) zs) (w' : World) (hb : Below w.heap.size w w') : ∀ (j : Nat) u, (ints zs)[j]? = some u → w'.cell? (x.add j) = some u := by
  obtain ⟨a, c, h1, _, _, _, h5⟩ := H
  intro j u hj
  have hjl : j < zs.length := by have := (List.getElem?_eq_some_iff.1 hj).1; rwa [ints_length] at this
  obtain ⟨b, off, e, _, _, _⟩ := h5 0 _ (List.getElem?_eq_getElem (by omega))
  injection h1 with e1 e2 e3
  rw [← e1] at e
  injection e with e
  subst e
  refine cells_map (w := w) (zs := zs) (fun k z hk => ?_) w' hb j u hj
  obtain ⟨b2, off2, e4, _, _, hc⟩ := h5 k z hk
  rw [← e1] at e4
  injection e4 with e4; injection e4 with e4 e5
  subst e4; subst e5
  exact hc
end Go.Proofs.Ytgnoclnenhmakaa
