/-
  The mathematics of a single error in a table: what it changes in the differences of each order. No conditions but bounds of numbers.
-/
import Derived.Test.YtlicihjjbojpcaaErrFm
import Derived.Test.YtlicihjjbojpcaaPolyAn
import Derived.Test.YtlicihjjbojpcaaErrC
namespace Go.Proofs.Ytlicihjjbojpcaa
set_option maxRecDepth 4000
open Go.RowKit
theorem coef_next0 : ((List.range 7).all fun o => (List.range 10).all fun m => decide (coefN (o + 1) m 0 = coefN o m 1 - coefN o m 0)) = true := by decide
theorem coef_next (o a i : Nat) (ho : o ≤ 6) : coefN (o + 1) a i = coefN o a (i + 1) - coefN o a i := by
  by_cases h : i ≤ a
  · obtain ⟨m, rfl⟩ : ∃ m, a = m + i := ⟨a - i, by omega⟩
    have e0 : coefN (o + 1) (m + i) i = coefN (o + 1) m 0 := by have := coef_shift (o + 1) m 0 i; rwa [Nat.zero_add] at this
    have e1 : coefN o (m + i) (i + 1) = coefN o m 1 := by have := coef_shift o m 1 i; rwa [Nat.add_comm 1 i] at this
    have e2 : coefN o (m + i) i = coefN o m 0 := by have := coef_shift o m 0 i; rwa [Nat.zero_add] at this
    rw [e0, e1, e2]
    by_cases hm : m < 10
    · have := coef_next0
      rw [List.all_eq_true] at this
      have := this o (List.mem_range.2 (by omega))
      rw [List.all_eq_true] at this
      exact of_decide_eq_true (this m (List.mem_range.2 hm))
    · rw [coef_low (o + 1) m 0 (by omega), coef_low o m 0 (by omega), coef_low o m 1 (by omega)]; rfl
  · rw [coefN, coefN, coefN, if_neg (by omega), if_neg (by omega), if_neg (by omega)]; rfl
/-- An error of the entry k adds its pattern to the differences of each order. -/
theorem err_adds (V : List Int) (k : Nat) (a : Int) (hk : k < V.length) (hV : ∀ x ∈ V, x.natAbs ≤ 1000000000) (hX : ∀ x ∈ putL V k a, x.natAbs ≤ 1000000000) : ∀ o, o ≤ 7 → ∀ (i : Nat) (u v : Int), (difN o V)[i]? = some u → (difN o (putL V k a))[i]? = some v → v = u + coefN o k i * a := by
  intro o
  induction o with
  | zero =>
    intro _ i u v hu hv
    change V[i]? = some u at hu
    change (putL V k a)[i]? = some v at hv
    unfold putL at hv
    rw [List.getElem?_set] at hv
    split at hv
    · rename_i e; subst e
      injection hv with hv
      rw [← hv, getD_of hu, coefN, if_pos (by omega)]
      have : sg (k + 0 - k) = 1 := by rw [show k + 0 - k = 0 by omega]; rfl
      have h2 : chN ((0 : Nat) : Int) (k - k) = 1 := by rw [Nat.sub_self]; rfl
      rw [this, h2]; omega
    · rename_i e
      rw [hu] at hv
      injection hv with hv
      rw [coefN, if_neg (by omega), ← hv]; omega
  | succ o ih =>
    intro ho i u v hu hv
    have hp : (2 : Nat) ^ o ≤ 2 ^ 6 := Nat.pow_le_pow_right (by decide) (by omega)
    have hp1 : (2 : Nat) ^ (o + 1) ≤ 2 ^ 7 := Nat.pow_le_pow_right (by decide) ho
    have bV := difN_bd V 1000000000 hV o (by omega)
    have bX := difN_bd (putL V k a) 1000000000 hX o (by omega)
    rw [difN_snoc] at hu hv
    have lu := (List.getElem?_eq_some_iff.1 hu).1
    have lv := (List.getElem?_eq_some_iff.1 hv).1
    rw [difW_length] at lu lv
    obtain ⟨u0, hu0⟩ := get_lt (difN o V) i (by omega)
    obtain ⟨u1, hu1⟩ := get_lt (difN o V) (i + 1) (by omega)
    obtain ⟨v0, hv0⟩ := get_lt (difN o (putL V k a)) i (by omega)
    obtain ⟨v1, hv1⟩ := get_lt (difN o (putL V k a)) (i + 1) (by omega)
    rw [difW_get _ i u0 u1 hu0 hu1] at hu
    rw [difW_get _ i v0 v1 hv0 hv1] at hv
    have a0 := bV u0 (List.mem_of_getElem? hu0)
    have a1 := bV u1 (List.mem_of_getElem? hu1)
    have c0 := bX v0 (List.mem_of_getElem? hv0)
    have c1 := bX v1 (List.mem_of_getElem? hv1)
    injection hu with hu
    injection hv with hv
    rw [wrap64_id _ (by omega) (by omega)] at hu
    rw [wrap64_id _ (by omega) (by omega)] at hv
    have e0 := ih (by omega) i u0 v0 hu0 hv0
    have e1 := ih (by omega) (i + 1) u1 v1 hu1 hv1
    rw [coef_next o k i (by omega), Int.sub_mul]
    omega
/-- The differences of a clean table with one error. -/
theorem err_row (V : List Int) (k : Nat) (a : Int) (o : Nat) (ho : o ≤ 7) (hk : k < V.length) (hV : ∀ x ∈ V, x.natAbs ≤ 1000000000) (hX : ∀ x ∈ putL V k a, x.natAbs ≤ 1000000000) (hz : zeroOk (difN o V) = true) : difN o (putL V k a) = errL o k a (V.length - o) := by
  refine List.ext_getElem? fun i => ?_
  by_cases hi : i < V.length - o
  · obtain ⟨u, hu⟩ := get_lt (difN o V) i (by rw [difN_length]; exact hi)
    obtain ⟨v, hv⟩ := get_lt (difN o (putL V k a)) i (by rw [difN_length, putL_length]; exact hi)
    have h0 : u = 0 := by
      unfold zeroOk at hz
      simp at hz
      exact hz u (List.mem_of_getElem? hu)
    rw [hv, errL_get o k a _ i hi, err_adds V k a hk hV hX o ho i u v hu hv, h0, Int.zero_add]
  · rw [List.getElem?_eq_none (by rw [difN_length, putL_length]; omega), List.getElem?_eq_none (by rw [errL_length]; omega)]
theorem put_tab (V : List Int) (k a : Int) (h : putOk V k a = true) : tableOk (putL V k.toNat a) = true ∧ 0 ≤ k ∧ k < V.length ∧ tableOk V = true := by
  unfold putOk at h
  simp only [Bool.and_eq_true] at h
  obtain ⟨ht, ha, _, hb⟩ := h
  have ⟨h1, h2⟩ := of_decide_eq_true ha
  have ⟨h3, h4⟩ := of_decide_eq_true hb
  obtain ⟨t1, t2, t3⟩ := (listOk_iff 60 1000000000 V).1 ht
  refine ⟨(listOk_iff 60 1000000000 _).2 ⟨by rw [putL_length]; exact t1, by rw [putL_length]; exact t2, fun x hx => ?_⟩, h1, h2, ht⟩
  unfold putL at hx
  rcases List.mem_or_eq_of_mem_set hx with hx | hx
  · exact t3 x hx
  · rw [hx]; exact ⟨h3, h4⟩
end Go.Proofs.Ytlicihjjbojpcaa
