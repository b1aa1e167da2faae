/-
  The search for a slip: parts of the program. No conditions but that slices fit in memory.
-/
import Derived.Test.YtlicihjjbojpcaaErrDm
namespace Go.Proofs.Ytlicihjjbojpcaa
set_option maxRecDepth 4000
open Go.RowKit
theorem isNz_any (x : Int) (w : World) : Calls Try.prog 76 #[.int .i64 x] w fun e w' => e = .returned (.bool (x != 0)) ∧ w = w' := by
  go_enter Try.func76, Try.ntmps76
  go_wp2
  go_ret
  exact ⟨rfl, rfl⟩
theorem indexNz4 (v : Value) (zs : List Int) (w : World) (lo hi : Nat) (hv : Lies w lo hi v zs) : Calls Try.prog 75 #[v, .func (.func 76) #[] #[]] w fun e w' => e = .returned (.int .i64 (nzI zs)) ∧ w = w' := by
  obtain ⟨a, cap, rfl, hlc, hcm, hnil, hcell⟩ := hv
  unfold maxLen at hcm
  have HC := hidH hcell
  clear hcell hnil
  go_enter Try.func75, Try.ntmps75
  go_wp2
  go_loop [8] (fun i => ∃ k : Nat, k ≤ zs.length ∧ i = .int .i64 k ∧ ∀ (j : Nat) z, j < k → zs[j]? = some z → z = 0) (fun i => zs.length - (intOf i).toNat)
  case atStart => exact ⟨0, Nat.zero_le _, rfl, fun j z h => absurd h (Nat.not_lt_zero _)⟩
  case round =>
    obtain ⟨k, hk, rfl, hn⟩ := hrel
    have HN := hidH hn
    clear hn
    by_cases hlt : k < zs.length
    · obtain ⟨z, hz⟩ := get_lt zs k hlt
      obtain ⟨b, off, rfl, _, _, hcz⟩ := HC.out k z hz
      have HZ := hidH hz
      clear hz
      cases hp : (z != 0)
      · have hz0 : z = 0 := by simpa using hp
        have hcall := isNz_any z w
        rw [hp] at hcall
        have HK := hidH hcall
        have HZ0 := hidH hz0
        clear hcall hp hz0
        go_wp2_with (go_at_call 76; refine HK.out.mono ?_; rintro e w' ⟨rfl, rfl⟩)
        go_round
        case rel =>
          refine ⟨k + 1, by omega, by go_num, fun j y hj hy => ?_⟩
          by_cases e : j = k
          · subst e; rw [HZ.out] at hy; injection hy with hy; rw [← hy]; exact HZ0.out
          · exact HN.out j y (by omega) hy
        case measure => simp [intOf]; omega
      · have hz0 : z ≠ 0 := by simpa using hp
        have hcall := isNz_any z w
        rw [hp] at hcall
        have HK := hidH hcall
        have HE := hidH (fnz_eq zs k (by omega) HN.out (fun y hy => by rw [HZ.out] at hy; injection hy with hy; rw [← hy]; exact hz0))
        clear hcall hp hz0
        go_wp2_with (go_at_call 76; refine HK.out.mono ?_; rintro e w' ⟨rfl, rfl⟩)
        go_ret
        exact ⟨by rw [nzI, HE.out, if_pos hlt]; rfl, rfl⟩
    · obtain rfl : k = zs.length := by omega
      have HE := hidH (fnz_eq zs zs.length (Nat.le_refl _) HN.out (fun y hy => by rw [List.getElem?_eq_none (Nat.le_refl _)] at hy; cases hy))
      go_wp2
      go_ret
      exact ⟨by rw [nzI, HE.out, if_neg (Nat.lt_irrefl _)]; rfl, rfl⟩
theorem areTables_any (v0 : Value) (zs0 : List Int) (v1 : Value) (zs1 : List Int) (w : World) (lo0 hi0 lo1 hi1 : Nat) (hv0 : Lies w lo0 hi0 v0 zs0) (hv1 : Lies w lo1 hi1 v1 zs1) : Calls Try.prog 60 #[v0, v1] w (Gives (.bool (tabsOk zs0 zs1)) w) := by
  unfold tabsOk
  have HV0 := hidH hv0
  have HV1 := hidH hv1
  obtain ⟨a0, cap0, rfl, hlc0, hcm0, _, _⟩ := hv0
  obtain ⟨a1, cap1, rfl, hlc1, hcm1, _, _⟩ := hv1
  unfold maxLen at hcm0 hcm1
  cases h0 : tableOk zs0
  · have H0 := hidH h0
    rw [Bool.false_and]
    clear h0
    go_enter Try.func60, Try.ntmps60
    go_wp2_with fail
    refine (tableValid_any _ zs0 _ _ _ HV0.out).mono ?_; rintro e w1 ⟨rfl, hb⟩
    rw [H0.out]
    go_wp2_with fail
    go_ret
    exact ⟨rfl, hb⟩
  · have H0 := hidH h0
    rw [Bool.true_and]
    clear h0
    cases h1 : tableOk zs1
    · have H1 := hidH h1
      rw [Bool.false_and]
      clear h1
      go_enter Try.func60, Try.ntmps60
      go_wp2_with fail
      refine (tableValid_any _ zs0 _ _ _ HV0.out).mono ?_; rintro e w1 ⟨rfl, hb⟩
      rw [H0.out]
      have HB1 := hidH hb
      have HV1' := hidH (HV1.out.below hb)
      clear hb
      go_wp2_with fail
      refine (tableValid_any _ zs1 _ _ _ HV1'.out).mono ?_; rintro e w2 ⟨rfl, hb⟩
      rw [H1.out]
      have HB2 := hidH (HB1.out.trans (hb.mono HB1.out.size))
      clear hb
      go_wp2_with fail
      go_ret
      exact ⟨rfl, HB2.out⟩
    · have H1 := hidH h1
      rw [Bool.true_and]
      clear h1
      by_cases hl : zs0.length = zs1.length
      · have hli : ((zs0.length : Int) == (zs1.length : Int)) = true := by simp [hl]
        rw [decide_eq_true hl]
        have HL := hidH hl
        clear hl
        go_enter Try.func60, Try.ntmps60
        go_wp2_with fail
        refine (tableValid_any _ zs0 _ _ _ HV0.out).mono ?_; rintro e w1 ⟨rfl, hb⟩
        rw [H0.out]
        have HB1 := hidH hb
        have HV1' := hidH (HV1.out.below hb)
        clear hb
        go_wp2_with fail
        refine (tableValid_any _ zs1 _ _ _ HV1'.out).mono ?_; rintro e w2 ⟨rfl, hb⟩
        rw [H1.out]
        have HB2 := hidH (HB1.out.trans (hb.mono HB1.out.size))
        clear hb
        go_wp2_with fail
        go_ret
        exact ⟨rfl, HB2.out⟩
      · have hli : ((zs0.length : Int) == (zs1.length : Int)) = false := by simp; omega
        rw [decide_eq_false hl]
        have HL := hidH hl
        clear hl
        go_enter Try.func60, Try.ntmps60
        go_wp2_with fail
        refine (tableValid_any _ zs0 _ _ _ HV0.out).mono ?_; rintro e w1 ⟨rfl, hb⟩
        rw [H0.out]
        have HB1 := hidH hb
        have HV1' := hidH (HV1.out.below hb)
        clear hb
        go_wp2_with fail
        refine (tableValid_any _ zs1 _ _ _ HV1'.out).mono ?_; rintro e w2 ⟨rfl, hb⟩
        rw [H1.out]
        have HB2 := hidH (HB1.out.trans (hb.mono HB1.out.size))
        clear hb
        go_wp2_with fail
        go_ret
        exact ⟨rfl, HB2.out⟩
end Go.Proofs.Ytlicihjjbojpcaa
