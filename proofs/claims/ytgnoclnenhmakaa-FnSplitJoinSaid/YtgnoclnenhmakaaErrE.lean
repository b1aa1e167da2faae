/-
  The search for a slip: parts of the program. No conditions but that slices fit in memory.
-/
import Derived.Test.YtgnoclnenhmakaaErrDm
namespace Go.Proofs.Ytgnoclnenhmakaa
set_option maxRecDepth 4000
open Go.RowKit
theorem isNz_any (x : Int) (w : World) : Calls Try.prog 69 #[.int .i64 x] w fun e w' => e = .returned (.bool (x != 0)) ∧ w = w' := by
  go_enter Try.func69, Try.ntmps69
  go_wp2
  go_ret
  exact ⟨rfl, rfl⟩
theorem indexNz4 (v : Value) (zs : List Int) (w : World) (lo hi : Nat) (hv : Lies w lo hi v zs) : Calls Try.prog 67 #[v, .func (.func 69) #[] #[]] w fun e w' => e = .returned (.int .i64 (nzI zs)) ∧ w = w' := by
  obtain ⟨a, cap, rfl, hlc, hcm, hnil, hcell⟩ := hv
  unfold maxLen at hcm
  have HC := hidH hcell
  clear hcell hnil
  go_enter Try.func67, Try.ntmps67
  go_wp2
  go_loop [8] (fun i => ∃ k : Nat, k ≤ zs.length ∧ i = .int .i64 k ∧ ∀ (j : Nat) z, j < k → zs[j]? = some z → z = 0) (fun i => zs.length - (intOf i).toNat)
  case atStart => exact ⟨0, Nat.zero_le _, rfl, fun j z h => absurd h (Nat.not_lt_zero _)⟩
  case round =>
    obtain ⟨k, hk, rfl, hn⟩ := hrel
    have HN := hidH hn
    clear hn
    by_cases hlt : k < zs.length
    · obtain ⟨z, hz⟩ := get_lt zs k hlt
      obtain ⟨b, off, rfl, _, _, hcz⟩ := HC.out k z hz
      have HZ := hidH hz
      clear hz
      cases hp : (z != 0)
      · have hz0 : z = 0 := by simpa using hp
        have hcall := isNz_any z w
        rw [hp] at hcall
        have HK := hidH hcall
        have HZ0 := hidH hz0
        clear hcall hp hz0
        go_wp2_with (go_at_call 69; refine HK.out.mono ?_; rintro e w' ⟨rfl, rfl⟩)
        go_round
        case rel =>
          refine ⟨k + 1, by omega, by go_num, fun j y hj hy => ?_⟩
          by_cases e : j = k
          · subst e; rw [HZ.out] at hy; injection hy with hy; rw [← hy]; exact HZ0.out
          · exact HN.out j y (by omega) hy
        case measure => simp [intOf]; omega
      · have hz0 : z ≠ 0 := by simpa using hp
        have hcall := isNz_any z w
        rw [hp] at hcall
        have HK := hidH hcall
        have HE := hidH (fnz_eq zs k (by omega) HN.out (fun y hy => by rw [HZ.out] at hy; injection hy with hy; rw [← hy]; exact hz0))
        clear hcall hp hz0
        go_wp2_with (go_at_call 69; refine HK.out.mono ?_; rintro e w' ⟨rfl, rfl⟩)
        go_ret
        exact ⟨by rw [nzI, HE.out, if_pos hlt]; rfl, rfl⟩
    · obtain rfl : k = zs.length := by omega
      have HE := hidH (fnz_eq zs zs.length (Nat.le_refl _) HN.out (fun y hy => by rw [List.getElem?_eq_none (Nat.le_refl _)] at hy; cases hy))
      go_wp2
      go_ret
      exact ⟨by rw [nzI, HE.out, if_neg (Nat.lt_irrefl _)]; rfl, rfl⟩
end Go.Proofs.Ytgnoclnenhmakaa
