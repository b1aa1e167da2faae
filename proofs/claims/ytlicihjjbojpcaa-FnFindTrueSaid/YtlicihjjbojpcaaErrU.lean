/-
  The map of the entries of a table by their syndromes: the program. No conditions but bounds of numbers.
-/
import Derived.Test.YtlicihjjbojpcaaErrS
import Derived.Carry
namespace Go.Proofs.Ytlicihjjbojpcaa
set_option maxRecDepth 4000
open Go.RowKit Go.Maps
theorem run_makeMapN (c : Nat) (w : World) : (Instr.makeMap 62 (some (.int .i64 c))).run Try.prog w = .ok (.map (some w.heap.size)) (w.alloc (.map #[] 0)) := by
  simp [Instr.makeMap, run_underlying Try.underlying62, asInt, Result.andThen]
  rfl
theorem grown_below {w w' : World} (hb : Below w.heap.size w w') : w.grownBy w' none := ⟨hb.os, hb.tape, hb.output, hb.size, fun i hi _ => hb.block i hi⟩
/-- The map of the entries of a table by their syndromes, in a block of its own. -/
def GivesMap (D : DataW Unit) (n : Nat) (w : World) (e : Ending) (w' : World) : Prop := ∃ b, e = .returned (.map (some b)) ∧ w'.ownsMap Try.prog 65 (plainElem (H := Unit) Try.prog 3) b n D ∧ Below w.heap.size w w'
theorem unit_nz (o at_ L : Nat) (ho : o ≤ 7) (h : at_ < L + o) (hL : 0 < L) : fnz (errL o at_ 1 L) < (errL o at_ 1 L).length := by
  rw [errL_first o at_ 1 L ho (by decide) h hL, errL_length]; omega
theorem unit_bd (o k L : Nat) (ho : o ≤ 7) : ∀ x ∈ errL o k 1 L, x.natAbs ≤ 1000000000000 := fun x hx => by
  obtain ⟨i, hi⟩ := List.mem_iff_getElem?.1 hx
  have hil : i < L := by have := (List.getElem?_eq_some_iff.1 hi).1; rwa [errL_length] at this
  rw [errL_get o k 1 L i hil] at hi
  have := coef_bd o k i ho
  simp at hi
  omega
set_option maxHeartbeats 1600000 in
theorem entries_any (c o L : Nat) (hc : c = L + o) (ho : o ≤ 7) (h2 : 2 ≤ L) (hL : c ≤ 60) (w : World) : Calls Try.prog 41 #[.int .i64 c, .int .i64 o] w (GivesMap (entD o L c) c w) := by
  have hmm := run_makeMapN c
  have HER := hidH (fun (k : Nat) (h : k < c) (w : World) => errRow_any c o k L 1 hc ho (by omega) (by omega) (by omega) (by omega) w)
  have HSY := hidH (fun (k : Nat) (h : k < c) (v : Value) (w : World) (lo hi : Nat) (hv : Lies w lo hi v (errL o k 1 L)) => synd_any v (errL o k 1 L) w lo hi hv (by rw [errL_length]; omega) (by rw [errL_length]; exact h2) (unit_nz o k L ho (by omega) (by omega)) (unit_bd o k L ho))
  have HKE := hidH (fun (k : Nat) => keyS_eq (unitS o k L) (unit_in o k L ho (by omega)))
  have HW := hidH (Below.refl w.heap.size w)
  clear hc ho h2
  go_enter Try.func41, Try.ntmps41
  go_wp2_with fail
  go_loopw [10] (fun i wr => ∃ k : Nat, k ≤ c ∧ i = .int .i64 k ∧ wr.ownsMap Try.prog 65 (plainElem (H := Unit) Try.prog 3) w.heap.size k (entD o L k) ∧ Below w.heap.size w wr) (fun i _ => c - (intOf i).toNat)
  case atStart => exact ⟨0, Nat.zero_le _, rfl, World.ownsMap_made _ _ _ _, bMore HW.out _⟩
  case round =>
    obtain ⟨k, hk, rfl, hown, hb⟩ := hrel
    have HO := hidH hown
    have HB := hidH hb
    clear hown hb
    by_cases hlt : k < c
    · have HE1 := hidH (HER.out k hlt wr)
      have HS1 := hidH (HSY.out k hlt)
      have HK1 := hidH (HKE.out k)
      go_wp2_with fail
      refine HE1.out.mono ?_; rintro e w1 ⟨u, rfl, hr, hb⟩
      have HR := hidH hr
      have HO1 := hidH (HO.out.kept (row := none) (grown_below hb) (by simp))
      have HB1 := hidH (HB.out.trans (hb.mono HB.out.size))
      clear hr hb
      go_wp2_with fail
      refine (HS1.out u w1 _ _ HR.out.lies).mono ?_; rintro e w2 ⟨rfl, hb⟩
      have HO2 := hidH (HO1.out.kept (row := none) (grown_below hb) (by simp))
      have HB2 := hidH (HB1.out.trans (hb.mono HB1.out.size))
      clear hb
      go_wp2_with (first | (at_mapUpdate; refine wpList_mapUpdate_own _ rfl _ _ _ 62 rfl 65 3 synLaw Try.underlying62 _ w.heap.size k _ rfl HO2.out (by unfold maxLen; omega) _ _ _ rfl rfl HK1.out _ [] (plainElem_int Try.underlying3 (WalkArith.wf_i64 (by omega))) ?_; intro w3 hown3 hgrow3) | fail)
      have HO3 := hidH hown3
      have HB3 := hidH (HB2.out.grown hgrow3 HB2.out.size (fun j hj => by cases hj; exact Nat.le_refl _))
      clear hown3 hgrow3
      go_wp2_with fail
      go_roundw
      case rel => exact ⟨k + 1, by omega, by go_num, HO3.out, HB3.out⟩
      case measure => simp [intOf]; omega
    · obtain rfl : k = c := by omega
      go_wp2_with fail
      go_ret
      exact ⟨_, rfl, HO.out, HB.out⟩
end Go.Proofs.Ytlicihjjbojpcaa
