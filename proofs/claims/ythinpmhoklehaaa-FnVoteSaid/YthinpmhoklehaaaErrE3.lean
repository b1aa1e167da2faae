/-
  DiagnoseSlip: the model, at every argument. No conditions but that slices fit in memory.
-/
import Derived.Test.YthinpmhoklehaaaErrE2
namespace Go.Proofs.Ythinpmhoklehaaa
set_option maxRecDepth 4000
open Go.RowKit
/-- The world may have drawn. -/
def Drew (v : Value) (w : World) (e : Ending) (w' : World) : Prop := e = .returned v ∧ ∃ q, w' = w.drewN q
set_option maxHeartbeats 800000 in
theorem sWrongAt_any (v0 : Value) (zs0 : List Int) (v1 : Value) (zs1 : List Int) (w : World) (lo0 hi0 lo1 hi1 : Nat) (hv0 : Lies w lo0 hi0 v0 zs0) (hv1 : Lies w lo1 hi1 v1 zs1) (hl : zs0.length = zs1.length) (h1 : 1 ≤ zs0.length) : Calls Try.prog 44 #[v0, v1] w (Drew (.int .i64 (nzI (wrongL zs0 zs1))) w) := by
  obtain ⟨b0, off0, cap0, rfl, hlc0, hcm0, _, _, _, hcell0⟩ := hv0.addr (by omega)
  obtain ⟨b1, off1, cap1, rfl, hlc1, hcm1, _, _, _, hcell1⟩ := hv1.addr (by omega)
  unfold maxLen at hcm0 hcm1
  have HCA := hidH hcell0
  have HCB := hidH hcell1
  have HL := hidH hl
  have HWL := hidH (wrongL_length zs0 zs1)
  clear hv0 hv1 hcell0 hcell1 hl
  go_enter Try.func44, Try.ntmps44
  go_wp2_with fail
  go_loopw [5] (fun i wr => ∃ k q : Nat, k ≤ zs0.length ∧ i = .int .i64 k ∧ (∀ (j : Nat) z, j < k → (wrongL zs0 zs1)[j]? = some z → z = 0) ∧ wr = w.drewN q) (fun i _ => zs0.length - (intOf i).toNat)
  case atStart => exact ⟨0, 0, Nat.zero_le _, rfl, fun j z h => absurd h (Nat.not_lt_zero _), rfl⟩
  case round =>
    obtain ⟨k, q, hk, rfl, hn, rfl⟩ := hrel
    have HN := hidH hn
    clear hn
    by_cases hlt : k < zs0.length
    · have hlt1 : k < zs1.length := by rw [← HL.out]; exact hlt
      obtain ⟨z, hz⟩ := get_lt zs0 k hlt
      obtain ⟨y, hy⟩ := get_lt zs1 k hlt1
      have hcz := HCA.out k z hz
      have hcy := HCB.out k y hy
      have HD := hidH (wrongL_get zs0 zs1 k z y hz hy)
      clear hz hy
      by_cases he : z = y
      · subst he
        have HZ0 := hidH (show ∀ n : Int, (wrongL zs0 zs1)[k]? = some n → n = 0 from fun n hn => by rw [HD.out] at hn; injection hn with hn; omega)
        go_wp2_with fail
        go_quiet (fail)
        go_wp2_with fail
        go_roundw
        case rel =>
          refine ⟨k + 1, _, by omega, by go_num, fun j n hj hn => ?_, by first | rfl | exact drewN_add _ _ _⟩
          by_cases e : j = k
          · subst e; exact HZ0.out n hn
          · exact HN.out j n (by omega) hn
        case measure => simp [intOf]; omega
      · have hzy : (z != y) = true := bne_iff_ne.2 he
        have hzy2 : (z == y) = false := beq_eq_false_iff_ne.2 he
        have HE := hidH (fnz_eq (wrongL zs0 zs1) k (by rw [HWL.out]; omega) HN.out (fun n hn => by rw [HD.out] at hn; injection hn with hn; omega))
        clear he
        go_wp2_with fail
        go_quiet (fail)
        go_wp2_with fail
        go_ret
        exact ⟨by rw [nzI, HE.out, HWL.out, if_pos hlt]; rfl, _, by first | rfl | exact drewN_add _ _ _⟩
    · obtain rfl : k = zs0.length := by omega
      have HE := hidH (fnz_eq (wrongL zs0 zs1) zs0.length (by rw [HWL.out]; exact Nat.le_refl _) HN.out (fun y hy => by rw [List.getElem?_eq_none (by rw [HWL.out]; exact Nat.le_refl _)] at hy; cases hy))
      go_wp2_with fail
      go_ret
      exact ⟨by rw [nzI, HE.out, HWL.out, if_neg (Nat.lt_irrefl _)]; rfl, q, rfl⟩
def lensOk (zs ys : List Int) : Bool := decide (zs.length = ys.length)
end Go.Proofs.Ythinpmhoklehaaa
