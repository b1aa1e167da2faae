/-
  SplitSegment: the program, at every argument. No conditions but that slices fit in memory.
-/
import Derived.Test.YtmmcdmnmhpbehaaSplB
import Derived.Test.YtmmcdmnmhpbehaaPlnD
namespace Go.Proofs.Ytmmcdmnmhpbehaa
set_option maxRecDepth 4000
open Go.RowKit
/-- The place of a plan at which a segment is split: its number of entries and its polynomial. -/
def splitOk (cs : List (Int × List Int)) (i a : Int) : Bool := planOk cs && (decide (0 ≤ i ∧ i < (cs.length : Int)) && decide ((1 : Int) ≤ a ∧ a < (cs.getD i.toNat (0, [])).1))
def splitB (cs : List (Int × List Int)) (i a : Int) : Bool := splitOk cs i a && shiftB (cs.getD i.toNat (0, [])).2 a
/-- What SplitSegment answers. -/
def splitA (cs : List (Int × List Int)) (i a : Int) : List (Int × List Int) := if splitB cs i a then cs.take i.toNat ++ [(a, (cs.getD i.toNat (0, [])).2), ((cs.getD i.toNat (0, [])).1 - a, shiftA (cs.getD i.toNat (0, [])).2 a)] ++ cs.drop (i.toNat + 1) else []
theorem splitB_no1 {cs : List (Int × List Int)} (i a : Int) (h : planOk cs = false) : splitB cs i a = false ∧ splitA cs i a = [] := by
  have e : splitB cs i a = false := by unfold splitB splitOk; rw [h]; rfl
  exact ⟨e, by unfold splitA; rw [e]; rfl⟩
theorem splitB_no2 (cs : List (Int × List Int)) {i : Int} (a : Int) (h : ¬ (0 ≤ i ∧ i < (cs.length : Int))) : splitB cs i a = false ∧ splitA cs i a = [] := by
  have e : splitB cs i a = false := by unfold splitB splitOk; rw [decide_eq_false h]; simp
  exact ⟨e, by unfold splitA; rw [e]; rfl⟩
theorem splitB_no3 {cs : List (Int × List Int)} {k : Nat} {c a : Int} {zs : List Int} (hx : cs[k]? = some (c, zs)) (h : ¬ (1 ≤ a ∧ a < c)) : splitB cs (k : Int) a = false ∧ splitA cs (k : Int) a = [] := by
  have e : splitB cs (k : Int) a = false := by
    unfold splitB splitOk
    rw [Int.toNat_natCast, List.getD_eq_getElem?_getD, hx]
    show ((planOk cs && (_ && decide ((1 : Int) ≤ a ∧ a < c))) && _) = false
    rw [decide_eq_false h]; simp
  exact ⟨e, by unfold splitA; rw [e]; rfl⟩
theorem splitB_at {cs : List (Int × List Int)} {k : Nat} {c a : Int} {zs : List Int} (hp : planOk cs = true) (hx : cs[k]? = some (c, zs)) (h : 1 ≤ a ∧ a < c) : splitB cs (k : Int) a = shiftB zs a ∧ (shiftB zs a = false → splitA cs (k : Int) a = []) ∧ (shiftB zs a = true → splitA cs (k : Int) a = cs.take k ++ [(a, zs), (c - a, shiftA zs a)] ++ cs.drop (k + 1)) := by
  have hkl := (List.getElem?_eq_some_iff.1 hx).1
  have e : splitB cs (k : Int) a = shiftB zs a := by
    unfold splitB splitOk
    rw [Int.toNat_natCast, List.getD_eq_getElem?_getD, hx, hp, decide_eq_true (show 0 ≤ (k : Int) ∧ (k : Int) < (cs.length : Int) by omega)]
    show ((true && (true && decide ((1 : Int) ≤ a ∧ a < c))) && shiftB zs a) = _
    rw [decide_eq_true h]; rfl
  refine ⟨e, fun hb => by unfold splitA; rw [e, hb]; rfl, fun hb => ?_⟩
  unfold splitA
  rw [e, hb, if_pos rfl, Int.toNat_natCast, List.getD_eq_getElem?_getD, hx]; rfl
theorem planOk_seg {cs : List (Int × List Int)} (h : planOk cs = true) : 1 ≤ cs.length ∧ cs.length ≤ 60 ∧ ∀ c zs, (c, zs) ∈ cs → 1 ≤ c ∧ c ≤ 60 ∧ 1 ≤ zs.length ∧ zs.length ≤ 7 := by
  obtain ⟨h1, h60, hall, _, _⟩ := planOk_parts h
  refine ⟨h1, h60, fun c zs hm => ?_⟩
  obtain ⟨p1, p2, p3, _⟩ := segOk_parts (List.all_eq_true.1 hall (c, zs) hm)
  obtain ⟨q1, q2, _⟩ := (listOk_iff 7 100000 zs).1 p1
  exact ⟨p2, p3, q1, q2⟩
theorem shiftA_len2 {zs : List Int} {a : Int} (h : shiftB zs a = true) : (shiftA zs a).length = zs.length := by
  unfold shiftB at h
  rw [Bool.and_eq_true] at h
  unfold shiftA
  rw [h.1, if_pos rfl]
  unfold resL
  rw [h.2, if_pos rfl]
  rw [shiftL_length]
theorem split_polys {cs : List (Int × List Int)} {k : Nat} {c a : Int} {zs : List Int} (hp : planOk cs = true) (hx : cs[k]? = some (c, zs)) (h : shiftB zs a = true) : ∀ d ys, (d, ys) ∈ cs.take k ++ [(a, zs), (c - a, shiftA zs a)] ++ cs.drop (k + 1) → 1 ≤ ys.length ∧ ys.length ≤ 7 := by
  obtain ⟨_, _, hall⟩ := planOk_seg hp
  obtain ⟨_, _, z1, z7⟩ := hall c zs (List.mem_of_getElem? hx)
  intro d ys hm
  rw [List.mem_append, List.mem_append] at hm
  rcases hm with (hm | hm) | hm
  · have := hall d ys (List.mem_of_mem_take hm); omega
  · simp at hm
    rcases hm with ⟨_, rfl⟩ | ⟨_, rfl⟩
    · exact ⟨z1, z7⟩
    · rw [shiftA_len2 h]; exact ⟨z1, z7⟩
  · have := hall d ys (List.mem_of_mem_drop hm); omega
end Go.Proofs.Ytmmcdmnmhpbehaa
