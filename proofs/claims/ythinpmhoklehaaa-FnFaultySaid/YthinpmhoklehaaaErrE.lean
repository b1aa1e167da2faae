/-
  The search for a slip: parts of the program. No conditions but that slices fit in memory.
-/
import Derived.Test.YthinpmhoklehaaaErrDm
namespace Go.Proofs.Ythinpmhoklehaaa
set_option maxRecDepth 4000
open Go.RowKit
theorem areTables_any (v0 : Value) (zs0 : List Int) (v1 : Value) (zs1 : List Int) (w : World) (lo0 hi0 lo1 hi1 : Nat) (hv0 : Lies w lo0 hi0 v0 zs0) (hv1 : Lies w lo1 hi1 v1 zs1) : Calls Try.prog 40 #[v0, v1] w (Gives (.bool (tabsOk zs0 zs1)) w) := by
  unfold tabsOk
  have HV0 := hidH hv0
  have HV1 := hidH hv1
  obtain ⟨a0, cap0, rfl, hlc0, hcm0, _, _⟩ := hv0
  obtain ⟨a1, cap1, rfl, hlc1, hcm1, _, _⟩ := hv1
  unfold maxLen at hcm0 hcm1
  cases h0 : tableOk zs0
  · have H0 := hidH h0
    rw [Bool.false_and]
    clear h0
    go_enter Try.func40, Try.ntmps40
    go_wp2_with fail
    refine (tableValid_any _ zs0 _ _ _ HV0.out).mono ?_; rintro e w1 ⟨rfl, hb⟩
    rw [H0.out]
    go_wp2_with fail
    go_ret
    exact ⟨rfl, hb⟩
  · have H0 := hidH h0
    rw [Bool.true_and]
    clear h0
    cases h1 : tableOk zs1
    · have H1 := hidH h1
      rw [Bool.false_and]
      clear h1
      go_enter Try.func40, Try.ntmps40
      go_wp2_with fail
      refine (tableValid_any _ zs0 _ _ _ HV0.out).mono ?_; rintro e w1 ⟨rfl, hb⟩
      rw [H0.out]
      have HB1 := hidH hb
      have HV1' := hidH (HV1.out.below hb)
      clear hb
      go_wp2_with fail
      refine (tableValid_any _ zs1 _ _ _ HV1'.out).mono ?_; rintro e w2 ⟨rfl, hb⟩
      rw [H1.out]
      have HB2 := hidH (HB1.out.trans (hb.mono HB1.out.size))
      clear hb
      go_wp2_with fail
      go_ret
      exact ⟨rfl, HB2.out⟩
    · have H1 := hidH h1
      rw [Bool.true_and]
      clear h1
      by_cases hl : zs0.length = zs1.length
      · have hli : ((zs0.length : Int) == (zs1.length : Int)) = true := by simp [hl]
        rw [decide_eq_true hl]
        have HL := hidH hl
        clear hl
        go_enter Try.func40, Try.ntmps40
        go_wp2_with fail
        refine (tableValid_any _ zs0 _ _ _ HV0.out).mono ?_; rintro e w1 ⟨rfl, hb⟩
        rw [H0.out]
        have HB1 := hidH hb
        have HV1' := hidH (HV1.out.below hb)
        clear hb
        go_wp2_with fail
        refine (tableValid_any _ zs1 _ _ _ HV1'.out).mono ?_; rintro e w2 ⟨rfl, hb⟩
        rw [H1.out]
        have HB2 := hidH (HB1.out.trans (hb.mono HB1.out.size))
        clear hb
        go_wp2_with fail
        go_ret
        exact ⟨rfl, HB2.out⟩
      · have hli : ((zs0.length : Int) == (zs1.length : Int)) = false := by simp; omega
        rw [decide_eq_false hl]
        have HL := hidH hl
        clear hl
        go_enter Try.func40, Try.ntmps40
        go_wp2_with fail
        refine (tableValid_any _ zs0 _ _ _ HV0.out).mono ?_; rintro e w1 ⟨rfl, hb⟩
        rw [H0.out]
        have HB1 := hidH hb
        have HV1' := hidH (HV1.out.below hb)
        clear hb
        go_wp2_with fail
        refine (tableValid_any _ zs1 _ _ _ HV1'.out).mono ?_; rintro e w2 ⟨rfl, hb⟩
        rw [H1.out]
        have HB2 := hidH (HB1.out.trans (hb.mono HB1.out.size))
        clear hb
        go_wp2_with fail
        go_ret
        exact ⟨rfl, HB2.out⟩
end Go.Proofs.Ythinpmhoklehaaa
