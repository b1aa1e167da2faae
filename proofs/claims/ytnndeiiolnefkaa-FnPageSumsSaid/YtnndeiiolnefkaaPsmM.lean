/-
  Mathematics of a page's entries and the sums of its columns. No conditions.
-/
import Derived.Test.YtnndeiiolnefkaaPlcM
import Derived.Test.YtnndeiiolnefkaaPolyV
namespace Go.Proofs.Ytnndeiiolnefkaa
set_option maxRecDepth 4000
open Go.RowKit
/-- There is such a page of a table. -/
def pgOk (R A W : Int) (vs : List Int) (page : Int) : Bool := tableOk vs && decide ((0 : Int) ≤ page ∧ page ≤ pagesA R A W vs.length - 1)
theorem pgOk_parts (R A W : Int) (vs : List Int) (page : Int) (h : pgOk R A W vs page = true) : tableOk vs = true ∧ layOk R A W = true ∧ ∃ rn an pn : Nat, R = (rn : Int) ∧ A = (an : Int) ∧ page = (pn : Int) ∧ 1 ≤ rn ∧ rn ≤ 20 ∧ 1 ≤ an ∧ an ≤ 6 ∧ pn * (an * rn) < vs.length ∧ pn ≤ 59 ∧ 1 ≤ an * rn ∧ an * rn ≤ 120 ∧ pagesA R A W vs.length ≤ 60 := by
  unfold pgOk at h
  rw [Bool.and_eq_true] at h
  obtain ⟨ht, hp⟩ := h
  have hp := of_decide_eq_true hp
  have ⟨t1, t2⟩ : 1 ≤ vs.length ∧ vs.length ≤ 60 := by
    have ⟨a, b, _⟩ := (listOk_iff _ _ _).1 ht
    exact ⟨a, b⟩
  cases hl : layOk R A W
  · unfold pagesA at hp
    rw [hl] at hp
    simp at hp
    omega
  · have hc : cntOk6 (vs.length : Int) = true := decide_eq_true (by omega)
    have ⟨⟨r1, r2⟩, ⟨a1, a2⟩, _⟩ := (layOk_iff R A W).1 hl
    have ⟨p1, p2, p3⟩ := places_bd R A r1 r2 a1 a2
    have hpa : pagesA R A W vs.length = ((vs.length : Int) + A * R - 1) / (A * R) := by unfold pagesA; rw [hl, hc]; rfl
    rw [hpa] at hp
    have e1 := Int.ediv_mul_le ((vs.length : Int) + A * R - 1) (show A * R ≠ 0 by omega)
    have e2 : (page + 1) * (A * R) ≤ ((vs.length : Int) + A * R - 1) / (A * R) * (A * R) := Int.mul_le_mul_of_nonneg_right (by omega) (by omega)
    rw [Int.add_mul, Int.one_mul] at e2
    have e3 : page * 1 ≤ page * (A * R) := Int.mul_le_mul_of_nonneg_left p1 hp.1
    have e4 : ((vs.length : Int) + A * R - 1) / (A * R) ≤ 60 := by
      have := Int.ediv_le_ediv (show 0 < A * R by omega) (show (vs.length : Int) + A * R - 1 ≤ 60 * (A * R) by omega)
      rwa [Int.mul_ediv_cancel _ (by omega)] at this
    refine ⟨ht, rfl, R.toNat, A.toNat, page.toNat, by omega, by omega, by omega, by omega, by omega, by omega, by omega, ?_, by omega, ?_, ?_, by rw [hpa]; exact e4⟩
    · have : ((page.toNat * (A.toNat * R.toNat) : Nat) : Int) < (vs.length : Int) := by
        rw [Int.natCast_mul, Int.natCast_mul, Int.toNat_of_nonneg hp.1, Int.toNat_of_nonneg (by omega), Int.toNat_of_nonneg (by omega)]
        omega
      omega
    · have : (1 : Int) ≤ ((A.toNat * R.toNat : Nat) : Int) := by
        rw [Int.natCast_mul, Int.toNat_of_nonneg (by omega), Int.toNat_of_nonneg (by omega)]; exact p1
      omega
    · have : ((A.toNat * R.toNat : Nat) : Int) ≤ 120 := by
        rw [Int.natCast_mul, Int.toNat_of_nonneg (by omega), Int.toNat_of_nonneg (by omega)]; exact p2
      omega
/-- The entries of a page. -/
def pgE (rn an pn : Nat) (vs : List Int) : List Int := (vs.drop (pn * (an * rn))).take (an * rn)
theorem pgE_length (rn an pn : Nat) (vs : List Int) : (pgE rn an pn vs).length = min (an * rn) (vs.length - pn * (an * rn)) := by
  unfold pgE
  rw [List.length_take, List.length_drop]
theorem pgE_get (rn an pn : Nat) (vs : List Int) (j : Nat) (h : j < an * rn) : (pgE rn an pn vs)[j]? = vs[pn * (an * rn) + j]? := by
  unfold pgE
  rw [List.getElem?_take, if_pos h, List.getElem?_drop]
theorem pgE_mem {rn an pn : Nat} {vs : List Int} {x : Int} (h : x ∈ pgE rn an pn vs) : x ∈ vs := List.mem_of_mem_drop (List.mem_of_mem_take h)
/-- The sum of the first r entries of column c. -/
def colTo (E : List Int) (rn c r : Nat) : Int := ((E.drop (c * rn)).take r).sum
/-- The sum of the entries of column c among the first i. -/
def colAt (E : List Int) (rn c i : Nat) : Int := (((E.take i).drop (c * rn)).take rn).sum
theorem take_snoc (L : List Int) (k : Nat) (x : Int) (h : L[k]? = some x) : L.take (k + 1) = L.take k ++ [x] := by
  rw [List.take_add_one, h]; rfl
theorem colTo_step (E : List Int) (rn c r : Nat) (x : Int) (h : E[c * rn + r]? = some x) : colTo E rn c (r + 1) = colTo E rn c r + x := by
  unfold colTo
  rw [take_snoc _ r x (by rw [List.getElem?_drop]; exact h), List.sum_append]
  simp
theorem colTo_stay (E : List Int) (rn c r : Nat) (h : E.length ≤ c * rn + r) : colTo E rn c (r + 1) = colTo E rn c r := by
  unfold colTo
  rw [List.take_of_length_le (by rw [List.length_drop]; omega), List.take_of_length_le (by rw [List.length_drop]; omega)]
theorem colAt_step (E : List Int) (rn c i : Nat) (x : Int) (hr : 1 ≤ rn) (h : E[i]? = some x) : colAt E rn c (i + 1) = colAt E rn c i + (if i / rn = c then x else 0) := by
  have hlt : i < E.length := (List.getElem?_eq_some_iff.1 h).1
  have hli : (E.take i).length = i := by rw [List.length_take]; omega
  unfold colAt
  rw [take_snoc E i x h, List.drop_append, hli]
  have hd := Nat.div_add_mod i rn
  have hm := Nat.mod_lt i (show 0 < rn by omega)
  by_cases hc : i / rn = c
  · rw [if_pos hc]
    have e : c * rn = rn * (i / rn) := by rw [hc, Nat.mul_comm]
    rw [show c * rn - i = 0 by omega, List.drop_zero]
    have hl : ((E.take i).drop (c * rn)).length = i - c * rn := by rw [List.length_drop, hli]
    have t1 : ((E.take i).drop (c * rn) ++ [x]).take rn = (E.take i).drop (c * rn) ++ [x] := List.take_of_length_le (by rw [List.length_append, hl]; simp; omega)
    have t2 : ((E.take i).drop (c * rn)).take rn = (E.take i).drop (c * rn) := List.take_of_length_le (by rw [hl]; omega)
    rw [t1, t2, List.sum_append]
    simp
  · rw [if_neg hc, Int.add_zero]
    by_cases hlo : i < c * rn
    · rw [List.drop_of_length_le (by rw [hli]; omega), List.drop_of_length_le (by simp; omega)]
      rfl
    · rw [show c * rn - i = 0 by omega, List.drop_zero]
      have hl : ((E.take i).drop (c * rn)).length = i - c * rn := by rw [List.length_drop, hli]
      have hge : rn ≤ i - c * rn := by
        rcases Nat.lt_or_ge c (i / rn) with h1 | h1
        · have : (c + 1) * rn ≤ (i / rn) * rn := Nat.mul_le_mul_right rn h1
          rw [Nat.add_mul, Nat.one_mul, Nat.mul_comm (i / rn) rn] at this
          omega
        · have : (i / rn + 1) * rn ≤ c * rn := Nat.mul_le_mul_right rn (by omega)
          rw [Nat.add_mul, Nat.one_mul, Nat.mul_comm (i / rn) rn] at this
          omega
      rw [List.take_append_of_le_length (by rw [hl]; exact hge)]
theorem colAt_zero (E : List Int) (rn c : Nat) : colAt E rn c 0 = 0 := by unfold colAt; simp
theorem colAt_all (E : List Int) (rn c : Nat) : colAt E rn c E.length = colTo E rn c rn := by unfold colAt colTo; rw [List.take_length]
theorem sum_bd (L : List Int) (h : ∀ x ∈ L, -1000000000 ≤ x ∧ x ≤ 1000000000) : -(1000000000 * (L.length : Int)) ≤ L.sum ∧ L.sum ≤ 1000000000 * (L.length : Int) := by
  induction L with
  | nil => simp
  | cons a t ih =>
    have h1 := h a (by simp)
    have h2 := ih (fun x hx => h x (by simp [hx]))
    rw [List.sum_cons, List.length_cons]
    omega
theorem colTo_bd (E : List Int) (rn c r : Nat) (h : ∀ x ∈ E, -1000000000 ≤ x ∧ x ≤ 1000000000) (hr : r ≤ 20) : -20000000000 ≤ colTo E rn c r ∧ colTo E rn c r ≤ 20000000000 := by
  unfold colTo
  have h1 := sum_bd ((E.drop (c * rn)).take r) (fun x hx => h x (List.mem_of_mem_drop (List.mem_of_mem_take hx)))
  have h2 : ((E.drop (c * rn)).take r).length ≤ r := by rw [List.length_take]; omega
  omega
theorem colAt_bd (E : List Int) (rn c i : Nat) (h : ∀ x ∈ E, -1000000000 ≤ x ∧ x ≤ 1000000000) (hr : rn ≤ 20) : -20000000000 ≤ colAt E rn c i ∧ colAt E rn c i ≤ 20000000000 := by
  unfold colAt
  have h1 := sum_bd (((E.take i).drop (c * rn)).take rn) (fun x hx => h x (List.mem_of_mem_take (List.mem_of_mem_drop (List.mem_of_mem_take hx))))
  have h2 : (((E.take i).drop (c * rn)).take rn).length ≤ rn := by rw [List.length_take]; omega
  omega
/-- The sums of the columns, among the first i entries. -/
def sumsAt (E : List Int) (rn an i : Nat) : List Int := (List.range an).map fun c => colAt E rn c i
theorem sumsAt_length (E : List Int) (rn an i : Nat) : (sumsAt E rn an i).length = an := by simp [sumsAt]
theorem sumsAt_get (E : List Int) (rn an i c : Nat) (h : c < an) : (sumsAt E rn an i)[c]? = some (colAt E rn c i) := by
  unfold sumsAt
  rw [List.getElem?_map, List.getElem?_range h]; rfl
theorem sumsAt_zero (E : List Int) (rn an : Nat) : sumsAt E rn an 0 = List.replicate an 0 := by
  apply List.ext_getElem?
  intro c
  by_cases h : c < an
  · rw [sumsAt_get E rn an 0 c h, colAt_zero, List.getElem?_replicate, if_pos h]
  · rw [List.getElem?_eq_none (by rw [sumsAt_length]; omega), List.getElem?_eq_none (by rw [List.length_replicate]; omega)]
theorem sumsAt_step (E : List Int) (rn an i : Nat) (x : Int) (hr : 1 ≤ rn) (h : E[i]? = some x) : sumsAt E rn an (i + 1) = (sumsAt E rn an i).set (i / rn) (colAt E rn (i / rn) i + x) := by
  apply List.ext_getElem?
  intro c
  by_cases hc : c < an
  · rw [sumsAt_get E rn an _ c hc, List.getElem?_set, colAt_step E rn c i x hr h]
    by_cases e : i / rn = c
    · rw [if_pos e, if_pos e, if_pos (by rw [sumsAt_length]; omega), e]
    · rw [if_neg e, if_neg e, sumsAt_get E rn an i c hc, Int.add_zero]
  · rw [List.getElem?_eq_none (by rw [sumsAt_length]; omega), List.getElem?_eq_none (by rw [List.length_set, sumsAt_length]; omega)]
/-- What PageSums answers. -/
def psL (rn an pn : Nat) (vs : List Int) : List Int := sumsAt (pgE rn an pn vs) rn an (pgE rn an pn vs).length
def psA (R A W : Int) (vs : List Int) (page : Int) : List Int := if pgOk R A W vs page then psL R.toNat A.toNat page.toNat vs else []
theorem psA_len (R A W : Int) (vs : List Int) (page : Int) : (psA R A W vs page).length ≤ 1048576 := by
  unfold psA
  split
  · rename_i h
    obtain ⟨_, _, rn, an, pn, rfl, rfl, rfl, _, _, _, h6, _⟩ := pgOk_parts R A W vs page h
    unfold psL
    rw [sumsAt_length, Int.toNat_natCast]; omega
  · simp
end Go.Proofs.Ytnndeiiolnefkaa
