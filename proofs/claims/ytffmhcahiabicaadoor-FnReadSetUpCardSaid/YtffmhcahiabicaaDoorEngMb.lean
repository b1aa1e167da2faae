/-
  Engines of another width hold the same numbers. No conditions.
-/
import Derived.Test.YtffmhcahiabicaaDoorMathD
import Derived.Test.YtffmhcahiabicaaDoorEngB
import Derived.Test.YtffmhcahiabicaaDoorEngJ
namespace Go.Proofs.YtffmhcahiabicaaDoor
set_option maxRecDepth 4000
set_option linter.unusedVariables false
open Go.RowKit
theorem colR_good (n wi : Int) (h : (colR n wi).2 = true) : ∃ m : Nat, wi = m ∧ 1 ≤ m ∧ m ≤ 12 ∧ fits n m = true ∧ (colR n wi).1 = showS n m := by
  unfold colR at h ⊢
  split at h
  · rename_i hc
    rw [if_pos hc]
    rw [Bool.and_eq_true, decide_eq_true_eq] at hc
    obtain ⟨⟨h1, h2⟩, hf⟩ := hc
    exact ⟨wi.toNat, by omega, by omega, by omega, hf, rfl⟩
  · cases h
theorem colR_fit (n : Int) (m : Nat) (h1 : 1 ≤ m) (h2 : m ≤ 12) (hf : fits n m = true) : colR n (m : Int) = (showS n m, true) := by
  unfold colR
  have e : (m : Int).toNat = m := by omega
  rw [e, hf, if_pos (by rw [Bool.and_true]; exact decide_eq_true (show (1 : Int) ≤ (m : Int) ∧ (m : Int) ≤ 12 from ⟨by omega, by omega⟩))]
  rfl
theorem sgnL_same (xs ys : List ByteArray) (hl : xs.length = ys.length) (h : ∀ (i : Nat) x y, xs[i]? = some x → ys[i]? = some y → sgnS x = sgnS y) : sgnL xs = sgnL ys := by
  unfold sgnL
  apply List.ext_getElem?
  intro i
  rw [List.getElem?_map, List.getElem?_map]
  by_cases hi : i < xs.length
  · obtain ⟨x, hx⟩ := get_lt xs i hi
    obtain ⟨y, hy⟩ := get_lt ys i (by omega)
    rw [hx, hy]
    exact congrArg some (h i x y hx hy)
  · rw [List.getElem?_eq_none (by omega), List.getElem?_eq_none (by omega)]
theorem listA_at (A : Nat → ByteArray × Bool) (n : Nat) (h : allA A n = true) : listA A n = listL A n := by rw [listA, h]; rfl
theorem allA_at (A : Nat → ByteArray × Bool) (n i : Nat) (h : allA A n = true) (hi : i < n) : (A i).2 = true := by
  unfold allA at h
  exact List.all_eq_true.1 h i (List.mem_range.2 hi)
/-- What WidenEngine answers holds the same numbers, and is given its own width again. -/
theorem wid_good (cs : List ByteArray) (wi : Int) (h : widB cs wi = true) :
    engOk cs = true ∧ engOk (widL cs wi) = true ∧ sgnL (widL cs wi) = sgnL cs ∧ (widL cs wi).length = cs.length ∧
    widL (widL cs wi) ((cs.headD ⟨#[]⟩).size : Int) = cs ∧ widB (widL cs wi) ((cs.headD ⟨#[]⟩).size : Int) = true := by
  unfold widB at h
  rw [Bool.and_eq_true] at h
  obtain ⟨hk, hall⟩ := h
  obtain ⟨c1, c7, n0, n1, n12, hcs⟩ := engOk_parts cs hk
  have e1 : widL cs wi = listL (widC cs wi) cs.length := by rw [widL_yes cs wi hk, listA_at _ _ hall]
  have hlen : (widL cs wi).length = cs.length := by rw [e1, listL_length]
  have hg : ∀ (i : Nat) c, cs[i]? = some c → ∃ m : Nat, wi = m ∧ 1 ≤ m ∧ m ≤ 12 ∧ fits (sgnS c) m = true ∧ (widL cs wi)[i]? = some (showS (sgnS c) m) := by
    intro i c hc
    have hi := (List.getElem?_eq_some_iff.1 hc).1
    have ha := allA_at _ _ i hall hi
    rw [widC_is cs wi i c hc] at ha
    obtain ⟨m, hm, m1, m2, hf, he⟩ := colR_good _ _ ha
    refine ⟨m, hm, m1, m2, hf, ?_⟩
    rw [e1, listL_at _ _ i hi, widC_is cs wi i c hc, he]
  obtain ⟨m0, hm0, m01, m02⟩ : ∃ m : Nat, wi = m ∧ 1 ≤ m ∧ m ≤ 12 := by
    obtain ⟨c, hc⟩ := get_lt cs 0 (by omega)
    obtain ⟨m, hm, m1, m2, _⟩ := hg 0 c hc
    exact ⟨m, hm, m1, m2⟩
  have hx : ∀ (i : Nat) x, (widL cs wi)[i]? = some x → ∃ c, cs[i]? = some c ∧ fits (sgnS c) m0 = true ∧ x = showS (sgnS c) m0 := by
    intro i x hx
    have hi := (List.getElem?_eq_some_iff.1 hx).1
    obtain ⟨c, hc⟩ := get_lt cs i (by omega)
    obtain ⟨m, hm, _, _, hf, he⟩ := hg i c hc
    have : m = m0 := by omega
    subst this
    rw [he] at hx
    exact ⟨c, hc, hf, (Option.some.inj hx).symm⟩
  have hok : engOk (widL cs wi) = true := by
    refine engOk_of _ m0 (by omega) (by omega) fun x hm => ?_
    obtain ⟨i, hi⟩ := List.mem_iff_getElem?.1 hm
    obtain ⟨c, hc, hf, rfl⟩ := hx i x hi
    exact ⟨showS_ok _ _ m01 m02, showS_size _ _⟩
  have hsg : sgnL (widL cs wi) = sgnL cs := by
    refine sgnL_same _ _ hlen fun i x y hxi hyi => ?_
    obtain ⟨c, hc, hf, rfl⟩ := hx i x hxi
    rw [hc] at hyi
    rw [Option.some.inj hyi.symm, sgnS_show _ _ m01 hf]
  have hh : (cs.headD ⟨#[]⟩).size = n0 := (hcs _ (List.mem_of_getElem? (head_at cs (by omega)))).2
  have hback : ∀ (i : Nat), i < (widL cs wi).length → ∃ c, cs[i]? = some c ∧ widC (widL cs wi) ((n0 : Nat) : Int) i = (c, true) := by
    intro i hi
    obtain ⟨x, hxi⟩ := get_lt (widL cs wi) i hi
    obtain ⟨c, hc, hf, rfl⟩ := hx i x hxi
    have hcc := hcs c (List.mem_of_getElem? hc)
    refine ⟨c, hc, ?_⟩
    rw [widC_is _ _ i _ hxi, sgnS_show _ _ m01 hf, colR_fit _ _ n1 n12 (by rw [← hcc.2]; exact sgnS_fits c hcc.1)]
    have := showS_sgn c hcc.1
    rw [hcc.2] at this
    rw [this]
  have hab : allA (widC (widL cs wi) ((n0 : Nat) : Int)) (widL cs wi).length = true := allA_yes _ _ fun j hj => by
    obtain ⟨c, _, he⟩ := hback j hj
    rw [he]
  refine ⟨hk, hok, hsg, hlen, ?_, ?_⟩
  · rw [hh, widL_yes _ _ hok, listA_at _ _ hab]
    apply List.ext_getElem?
    intro i
    by_cases hi : i < (widL cs wi).length
    · obtain ⟨c, hc, he⟩ := hback i hi
      rw [listL_at _ _ i hi, he, hc]
    · rw [List.getElem?_eq_none (by rw [listL_length]; omega), List.getElem?_eq_none (by omega)]
  · rw [hh, widB, hok, hab]
    rfl
theorem read_same (xs ys : List ByteArray) (hx : engOk xs = true) (hy : engOk ys = true) (h : sgnL xs = sgnL ys) : readL xs = readL ys ∧ readB xs = readB ys := by
  rw [readL_yes xs hx, readL_yes ys hy, readB_yes xs hx, readB_yes ys hy, h]
  exact ⟨rfl, rfl⟩
end Go.Proofs.YtffmhcahiabicaaDoor
