/-
  slices.Equal of two rows of the same length. No conditions but that slices fit in memory.
-/
import Derived.Test.YthinpmhoklehaaaErrI
namespace Go.Proofs.Ythinpmhoklehaaa
set_option maxRecDepth 4000
open Go.RowKit
set_option maxHeartbeats 800000 in
/-- slices.Equal of two rows of the same length. -/
theorem equal4_any (v0 : Value) (zs0 : List Int) (v1 : Value) (zs1 : List Int) (w : World) (lo0 hi0 lo1 hi1 : Nat) (hv0 : Lies w lo0 hi0 v0 zs0) (hv1 : Lies w lo1 hi1 v1 zs1) (hl : zs0.length = zs1.length) (h1 : 1 ≤ zs0.length) (hn : zs0.length ≤ 1048576) : Calls Try.prog 43 #[v0, v1] w fun e w' => e = .returned (.bool (decide (zs0 = zs1))) ∧ ∃ q, w' = w.drewN q := by
  obtain ⟨b0, off0, cap0, rfl, hlc0, hcm0, _, _, _, hcell0⟩ := hv0.addr (by omega)
  obtain ⟨b1, off1, cap1, rfl, hlc1, hcm1, _, _, _, hcell1⟩ := hv1.addr (by omega)
  unfold maxLen at hcm0 hcm1
  have HCA := hidH hcell0
  have HCB := hidH hcell1
  have HL := hidH hl
  rw [← hl]
  clear hv0 hv1 hcell0 hcell1 hlc1 hl
  go_enter Try.func43, Try.ntmps43
  go_wp2_with fail
  go_loopw [13] (fun i wr => ∃ k q : Nat, k ≤ zs0.length ∧ i = .int .i64 k ∧ (∀ (j : Nat), j < k → zs0[j]? = zs1[j]?) ∧ wr = w.drewN q) (fun i _ => zs0.length - (intOf i).toNat)
  case atStart => exact ⟨0, 0, Nat.zero_le _, rfl, fun j h => absurd h (Nat.not_lt_zero _), rfl⟩
  case round =>
    obtain ⟨k, q, hk, rfl, hs, rfl⟩ := hrel
    have HS := hidH hs
    clear hs
    by_cases hlt : k < zs0.length
    · have hlt1 : k < zs1.length := by rw [← HL.out]; exact hlt
      obtain ⟨z, hz⟩ := get_lt zs0 k hlt
      obtain ⟨y, hy⟩ := get_lt zs1 k hlt1
      have hcz := HCA.out k z hz
      have hcy := HCB.out k y hy
      have HZ := hidH hz
      have HY := hidH hy
      clear hz hy hlt1
      by_cases he : z = y
      · subst he
        go_wp2_with fail
        go_quiet (fail)
        go_wp2_with fail
        go_roundw
        case rel =>
          refine ⟨k + 1, _, by omega, by go_num, fun j hj => ?_, by first | rfl | exact drewN_add4 _ _ _⟩
          by_cases e : j = k
          · subst e; rw [HZ.out, HY.out]
          · exact HS.out j (by omega)
        case measure => simp [intOf]; omega
      · have hzy : (z != y) = true := bne_iff_ne.2 he
        have hzy2 : (z == y) = false := beq_eq_false_iff_ne.2 he
        have HE := hidH (show decide (zs0 = zs1) = false from decide_eq_false fun e => he (by have h := HZ.out; rw [e, HY.out] at h; injection h with h; exact h.symm))
        clear he
        go_wp2_with fail
        go_quiet (fail)
        go_wp2_with fail
        go_ret
        exact ⟨by rw [HE.out]; rfl, _, by first | rfl | exact drewN_add4 _ _ _⟩
    · obtain rfl : k = zs0.length := by omega
      have HE := hidH (show decide (zs0 = zs1) = true from decide_eq_true (List.ext_getElem? fun i => by
        by_cases hi : i < zs0.length
        · exact HS.out i hi
        · rw [List.getElem?_eq_none (by omega), List.getElem?_eq_none (by rw [← HL.out]; omega)]))
      go_wp2_with fail
      go_ret
      exact ⟨by rw [HE.out]; rfl, q, rfl⟩
end Go.Proofs.Ythinpmhoklehaaa
