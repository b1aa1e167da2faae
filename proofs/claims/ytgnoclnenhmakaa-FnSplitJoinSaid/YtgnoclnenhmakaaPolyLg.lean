/-
  The walk of a law: a trimmed polynomial has the same values, one difference more than its degree tells, and the last one is not 0 unless it is the only one. No conditions but that the bytes that came in can be read.
-/
import Derived.Test.YtgnoclnenhmakaaKitP
import Derived.Test.YtgnoclnenhmakaaDeFns
import Derived.Test.YtgnoclnenhmakaaPolyLc
import Derived.Test.YtgnoclnenhmakaaPolyD
namespace Go.Proofs.Ytgnoclnenhmakaa
set_option maxRecDepth 4000
open Go.RowKit
theorem ev_append (n : Int) (p q : List Int) (k : Nat) : ev n (p ++ q) k = ev n p k + ev n q (k + p.length) := by
  induction p generalizing k with
  | nil => simp [ev]
  | cons x p ih => rw [List.cons_append, ev, ih, ev, Int.add_assoc, List.length_cons, show k + 1 + p.length = k + (p.length + 1) by omega]
theorem ev_allzero (n : Int) (p : List Int) (h : ∀ x ∈ p, x = 0) (k : Nat) : ev n p k = 0 := by
  induction p generalizing k with
  | nil => rfl
  | cons x p ih => rw [ev, h x List.mem_cons_self, ih (fun y hy => h y (List.mem_cons_of_mem _ hy))]; simp
theorem evP_trim (zs : List Int) (n : Int) : evP (trimL zs) n = evP zs n := by
  have ⟨h1, _⟩ := trimTo_tail zs zs.length (Nat.le_refl _)
  have hz : ∀ x ∈ zs.drop (trimTo zs zs.length), x = 0 := fun x hx => by
    obtain ⟨j, hj, rfl⟩ := List.getElem_of_mem hx
    rw [List.length_drop] at hj
    rw [List.getElem_drop]
    have := h1 (trimTo zs zs.length + j) (by omega) (by omega)
    rw [List.getD_eq_getElem?_getD, List.getElem?_eq_getElem (by omega)] at this
    exact this
  have e := ev_append n (zs.take (trimTo zs zs.length)) (zs.drop (trimTo zs zs.length)) 0
  rw [List.take_append_drop] at e
  unfold evP
  rw [e, ev_allzero _ _ hz, Int.add_zero]
  rfl
theorem trim_ok (zs : List Int) (hz : polyOk zs = true) : polyOk (trimL zs) = true := by
  have ⟨h1, h2, h3⟩ := (listOk_iff _ _ _).1 hz
  have hp := trimTo_pos zs zs.length h1
  have hle := trimTo_le zs zs.length
  exact (listOk_iff _ _ _).2 ⟨by rw [trimL_length]; omega, by rw [trimL_length]; omega, fun x hx => h3 x (List.mem_of_mem_take hx)⟩
theorem trimTo_take (zs : List Int) (h0 : 0 < zs.length) : trimTo (trimL zs) (trimTo zs zs.length) = trimTo zs zs.length := by
  have ⟨_, h2⟩ := trimTo_tail zs zs.length (Nat.le_refl _)
  have hp := trimTo_pos zs zs.length h0
  have hle := trimTo_le zs zs.length
  generalize hT : trimTo zs zs.length = T at *
  rcases T with _ | _ | T
  · omega
  · rfl
  · have h := h2 (by omega)
    rw [trimTo, if_neg]
    rw [trimL, hT, List.getD_eq_getElem?_getD, List.getElem?_take, if_pos (by omega), ← List.getD_eq_getElem?_getD]
    exact h
theorem trim_trim (zs : List Int) (hz : polyOk zs = true) : trimA (trimL zs) = trimL zs := by
  have ⟨h1, _⟩ := polyOk_small _ hz
  have e := trimTo_take zs (by omega)
  rw [trimA, trim_ok zs hz, if_pos rfl]
  show (trimL zs).take (trimTo (trimL zs) (trimL zs).length) = _
  rw [trimL_length, e]
  exact List.take_of_length_le (by rw [trimL_length]; exact Nat.le_refl _)
theorem trim_val (zs : List Int) (n : Int) (hz : polyOk zs = true) : evA (trimL zs) n = evA zs n := by
  unfold evA
  rw [trim_ok zs hz, hz, evP_trim]
/-- What a degree tells of the trimmed polynomial. -/
theorem trim_deg (zs : List Int) (hz : polyOk zs = true) : (degL zs = -1 ∧ trimTo zs zs.length = 1) ∨ (degL zs = (trimTo zs zs.length : Int) - 1 ∧ ∃ x, (trimL zs)[trimTo zs zs.length - 1]? = some x ∧ x ≠ 0) := by
  have ⟨h1, _⟩ := polyOk_small _ hz
  have hzt := zero_trim zs (by omega)
  have ⟨_, h2⟩ := trimTo_tail zs zs.length (Nat.le_refl _)
  have hp := trimTo_pos zs zs.length (by omega)
  have hle := trimTo_le zs zs.length
  cases h : zeroOk zs
  · refine .inr ⟨by rw [degL, hz, if_pos rfl, h]; rfl, ?_⟩
    obtain ⟨x, hx⟩ := get_lt zs (trimTo zs zs.length - 1) (by omega)
    refine ⟨x, by rw [trimL, List.getElem?_take, if_pos (by omega)]; exact hx, ?_⟩
    have hd : zs.getD (trimTo zs zs.length - 1) 0 = x := by rw [List.getD_eq_getElem?_getD, hx]; rfl
    by_cases h3 : 2 ≤ trimTo zs zs.length
    · rw [← hd]; exact h2 h3
    · have e1 : trimTo zs zs.length = 1 := by omega
      rw [h] at hzt
      have hn := of_decide_eq_false hzt.symm
      rw [e1] at hd
      intro hx0
      exact hn ⟨e1, by rw [hd]; exact hx0⟩
  · rw [h] at hzt
    exact .inl ⟨by rw [degL, hz, if_pos rfl, h]; rfl, (of_decide_eq_true hzt.symm).1⟩
end Go.Proofs.Ytgnoclnenhmakaa
