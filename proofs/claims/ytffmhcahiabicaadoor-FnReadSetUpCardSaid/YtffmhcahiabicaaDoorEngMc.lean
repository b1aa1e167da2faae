/-
  Engines that are set up hold the shifted polynomial, and an engine is set up again from what it holds. No conditions.
-/
import Derived.Test.YtffmhcahiabicaaDoorEngMb
import Derived.Test.YtffmhcahiabicaaDoorEngH
import Derived.Test.YtffmhcahiabicaaDoorPolyE
namespace Go.Proofs.YtffmhcahiabicaaDoor
set_option maxRecDepth 4000
set_option linter.unusedVariables false
open Go.RowKit
theorem resL_is (L : List Int) (h : polyOk L = true) : resL L = L := by unfold resL; rw [if_pos h]
theorem shift_good (zs : List Int) (n : Int) (h : shiftB zs n = true) : polyOk zs = true ∧ inB 200 n = true ∧ shiftA zs n = shiftL zs n zs.length ∧ polyOk (shiftA zs n) = true := by
  have h0 := h
  unfold shiftB at h
  rw [Bool.and_eq_true, Bool.and_eq_true] at h
  obtain ⟨⟨h1, h2⟩, h3⟩ := h
  have e : shiftA zs n = shiftL zs n zs.length := by
    unfold shiftA
    rw [h1, h2, if_pos (by decide), resL_is _ h3]
  exact ⟨h1, h2, e, by rw [e]; exact h3⟩
/-- The columns of numbers that all fit hold the numbers. -/
theorem cols_good (qs : List Int) (wi : Int) (h1 : 1 ≤ qs.length) (h7 : qs.length ≤ 7) (h : allA (setC qs wi) qs.length = true) :
    engOk (listL (setC qs wi) qs.length) = true ∧ sgnL (listL (setC qs wi) qs.length) = qs := by
  have hg : ∀ (i : Nat) z, qs[i]? = some z → ∃ m : Nat, wi = m ∧ 1 ≤ m ∧ m ≤ 12 ∧ fits z m = true ∧ (listL (setC qs wi) qs.length)[i]? = some (showS z m) := by
    intro i z hz
    have hi := (List.getElem?_eq_some_iff.1 hz).1
    have ha := allA_at _ _ i h hi
    have e : setC qs wi i = colR z wi := by rw [setC, List.getD_eq_getElem?_getD, hz]; rfl
    rw [e] at ha
    obtain ⟨m, hm, m1, m2, hf, he⟩ := colR_good _ _ ha
    exact ⟨m, hm, m1, m2, hf, by rw [listL_at _ _ i hi, e, he]⟩
  obtain ⟨m0, hm0, m01, m02⟩ : ∃ m : Nat, wi = m ∧ 1 ≤ m ∧ m ≤ 12 := by
    obtain ⟨z, hz⟩ := get_lt qs 0 (by omega)
    obtain ⟨m, hm, m1, m2, _⟩ := hg 0 z hz
    exact ⟨m, hm, m1, m2⟩
  refine ⟨engOk_of _ m0 (by rw [listL_length]; exact h1) (by rw [listL_length]; exact h7) fun x hx => ?_, ?_⟩
  · obtain ⟨i, hi⟩ := List.mem_iff_getElem?.1 hx
    have hl := (List.getElem?_eq_some_iff.1 hi).1
    rw [listL_length] at hl
    obtain ⟨z, hz⟩ := get_lt qs i hl
    obtain ⟨m, hm, m1, m2, hf, he⟩ := hg i z hz
    have : m = m0 := by omega
    subst this
    rw [he] at hi
    obtain rfl := Option.some.inj hi
    exact ⟨showS_ok _ _ m1 m2, showS_size _ _⟩
  · unfold sgnL
    apply List.ext_getElem?
    intro i
    rw [List.getElem?_map]
    by_cases hi : i < qs.length
    · obtain ⟨z, hz⟩ := get_lt qs i hi
      obtain ⟨m, hm, m1, m2, hf, he⟩ := hg i z hz
      rw [he, hz]
      exact congrArg some (sgnS_show z m m1 hf)
    · rw [List.getElem?_eq_none (by rw [listL_length]; omega), List.getElem?_eq_none (by omega)]
      rfl
theorem set_good (zs : List Int) (n wi : Int) (h : setB zs n wi = true) :
    shiftB zs n = true ∧ engOk (setL zs n wi) = true ∧ sgnL (setL zs n wi) = shiftA zs n ∧ readL (setL zs n wi) = shiftA zs n ∧ readB (setL zs n wi) = true ∧ (setL zs n wi).length = zs.length ∧
    resA (setL zs n wi) = .tuple #[.int .i64 (evA zs n), .bool true] := by
  unfold setB at h
  rw [Bool.and_eq_true] at h
  obtain ⟨hs, ha⟩ := h
  obtain ⟨hp, hn, he, hq⟩ := shift_good zs n hs
  have ⟨p1, p7⟩ := shift_pos zs n hs
  obtain ⟨g1, g2⟩ := cols_good _ wi p1 p7 ha
  have e1 : setL zs n wi = listL (setC (shiftA zs n) wi) (shiftA zs n).length := by rw [setL_yes zs n wi hs, listA_at _ _ ha]
  rw [← e1] at g1 g2
  have hlen : (setL zs n wi).length = zs.length := by rw [e1, listL_length, he, shiftL_length]
  refine ⟨hs, g1, g2, by rw [readL_yes _ g1, g2, resL_is _ hq], by rw [readB_yes _ g1, g2, hq], hlen, ?_⟩
  rw [resA_yes _ g1]
  have hz1 : 0 < zs.length := by rw [← hlen, e1, listL_length]; omega
  have hh := sgnL_at _ _ _ (head_at (setL zs n wi) (by omega))
  rw [g2, he, shiftL_get zs n zs.length 0 hz1, List.drop_zero] at hh
  have hv : evA zs n = evP zs n := by unfold evA; rw [hp, hn, if_pos (by decide)]
  rw [hv, Option.some.inj hh]
theorem shiftL_none (ps : List Int) : shiftL ps 0 ps.length = ps := by
  apply List.ext_getElem?
  intro k
  by_cases hk : k < ps.length
  · rw [shiftL_get ps 0 ps.length k hk, List.drop_eq_getElem_cons hk, evP_zero, List.getElem?_eq_getElem hk]
  · rw [List.getElem?_eq_none (by rw [shiftL_length]; omega), List.getElem?_eq_none (by omega)]
/-- An engine is set up again from the polynomial that it holds. -/
theorem again_good (cs : List ByteArray) (h : readB cs = true) : engOk cs = true ∧ readL cs = sgnL cs ∧ setL (sgnL cs) 0 ((cs.headD ⟨#[]⟩).size : Int) = cs ∧ setB (sgnL cs) 0 ((cs.headD ⟨#[]⟩).size : Int) = true := by
  unfold readB at h
  rw [Bool.and_eq_true] at h
  obtain ⟨hk, hp⟩ := h
  obtain ⟨c1, c7, n0, n1, n12, hcs⟩ := engOk_parts cs hk
  have hh : (cs.headD ⟨#[]⟩).size = n0 := (hcs _ (List.mem_of_getElem? (head_at cs (by omega)))).2
  have hsl : shiftL (sgnL cs) 0 (sgnL cs).length = sgnL cs := shiftL_none _
  have hB : shiftB (sgnL cs) 0 = true := by unfold shiftB; rw [hp, hsl, hp]; rfl
  have hA : shiftA (sgnL cs) 0 = sgnL cs := by rw [(shift_good _ _ hB).2.2.1, hsl]
  have hc : ∀ (i : Nat) c, cs[i]? = some c → setC (sgnL cs) ((n0 : Nat) : Int) i = (c, true) := by
    intro i c hc
    have hcc := hcs c (List.mem_of_getElem? hc)
    have e : setC (sgnL cs) ((n0 : Nat) : Int) i = colR (sgnS c) ((n0 : Nat) : Int) := by rw [setC, List.getD_eq_getElem?_getD, sgnL_at cs i c hc]; rfl
    rw [e, colR_fit _ _ n1 n12 (by rw [← hcc.2]; exact sgnS_fits c hcc.1)]
    have := showS_sgn c hcc.1
    rw [hcc.2] at this
    rw [this]
  have hl : (sgnL cs).length = cs.length := sgnL_length cs
  have ha : allA (setC (sgnL cs) ((n0 : Nat) : Int)) (sgnL cs).length = true := allA_yes _ _ fun j hj => by
    obtain ⟨c, hcj⟩ := get_lt cs j (by omega)
    rw [hc j c hcj]
  refine ⟨hk, by rw [readL_yes cs hk, resL_is _ hp], ?_, ?_⟩
  · rw [hh, setL_yes _ _ _ hB, hA, listA_at _ _ ha]
    apply List.ext_getElem?
    intro i
    by_cases hi : i < cs.length
    · obtain ⟨c, hci⟩ := get_lt cs i hi
      rw [listL_at _ _ i (by omega), hc i c hci, hci]
    · rw [List.getElem?_eq_none (by rw [listL_length]; omega), List.getElem?_eq_none (by omega)]
  · rw [hh, setB, hB, hA, ha]
    rfl
end Go.Proofs.YtffmhcahiabicaaDoor
