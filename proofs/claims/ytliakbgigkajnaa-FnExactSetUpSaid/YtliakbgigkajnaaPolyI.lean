/-
  The walks of the program's binomial coefficients and values of polynomials, and of the model's. Conditions: arguments between -300 and 300 and valid polynomials where a contract says so.
-/
import Derived.Test.YtliakbgigkajnaaPolyS
import Derived.Test.YtliakbgigkajnaaPolyV
import Derived.IntWalk
namespace Go.Proofs.Ytliakbgigkajnaa
set_option maxRecDepth 4000
open Go.RowKit
theorem binom_any (n : Int) (h1 : -300 ≤ n) (h2 : n ≤ 300) (k : Nat) (hk : k ≤ 6) (w : World) : Calls Try.prog 53 #[.int .i64 n, .int .i64 k] w fun e w' => e = .returned (.int .i64 (chN n k)) ∧ w = w' := by
  go_enter Try.func53, Try.ntmps53
  go_wp2
  go_loop [5, 8] (fun o i => ∃ j : Nat, j ≤ k ∧ i = .int .i64 j ∧ o = .int .i64 (chN n j)) (fun _ i => k - (intOf i).toNat)
  case atStart => exact ⟨0, Nat.zero_le _, rfl, rfl⟩
  case round =>
    obtain ⟨j, hj, rfl, rfl⟩ := hrel
    by_cases hlt : j < k
    · have ⟨b1, b2⟩ := chN_mul_bd n h1 h2 j (by omega)
      have ⟨b3, b4⟩ := chN_bd n h1 h2 j (by omega)
      have ⟨b5, b6⟩ := chN_bd n h1 h2 (j + 1) (by omega)
      go_wp2
      go_round
      case rel => exact ⟨j + 1, by omega, by go_num, by rw [chN]⟩
      case measure => simp [intOf]; omega
    · go_wp2
      obtain rfl : j = k := by omega
      go_ret
      exact ⟨rfl, rfl⟩
theorem ev_take (n : Int) (zs : List Int) (k : Nat) (z : Int) (hz : zs[k]? = some z) : evP (zs.take (k + 1)) n = evP (zs.take k) n + z * chN n k := by
  have hk := (List.getElem?_eq_some_iff.1 hz).1
  unfold evP
  rw [List.take_add_one, hz, Option.toList_some, ev_snoc, List.length_take, Nat.zero_add, Nat.min_eq_left (by omega)]
theorem Small.take {p : List Int} (h : Small p) (k : Nat) : Small (p.take k) := ⟨by rw [List.length_take]; have := h.1; omega, fun x hx => h.2 x (List.mem_of_mem_take hx)⟩
theorem term_bd (z n : Int) (h1 : -300 ≤ n) (h2 : n ≤ 300) (k : Nat) (hk : k ≤ 6) (hz : -100000 ≤ z ∧ z ≤ 100000) : -120000000000000000 ≤ z * chN n k ∧ z * chN n k ≤ 120000000000000000 := by
  have ⟨a, b⟩ := chN_bd n h1 h2 k hk
  have h := abs_mul_le (a := z) (b := chN n k) (A := 100000) (B := 1200000000000) (by omega) (by omega)
  omega
theorem binom_same (n : Int) (h1 : -300 ≤ n) (h2 : n ≤ 300) (k : Nat) (hk : k ≤ 6) (w : World) : Calls Try.prog 53 #[.int .i64 n, .int .i64 k] w fun e w' => e = .returned (.int .i64 (chN n k)) ∧ w' = w :=
  (binom_any n h1 h2 k hk w).mono fun _ _ ⟨a, b⟩ => ⟨a, b.symm⟩
set_option maxHeartbeats 400000 in
theorem sEvalL_any (v : Value) (zs : List Int) (n : Int) (h1 : -300 ≤ n) (h2 : n ≤ 300) (hs : Small zs) (w : World) (lo hi : Nat) (hv : Lies w lo hi v zs) : Calls Try.prog 45 #[v, .int .i64 n] w fun e w' => e = .returned (.int .i64 (evP zs n)) ∧ ∃ q, w' = w.drewN q := by
  obtain ⟨a, cap, rfl, hlc, hcm, hnil, hcell⟩ := hv
  unfold maxLen at hcm
  have HC := hidH hcell
  have HS := hidH hs
  have hl7 := hs.1
  clear hcell hnil hs
  go_enter Try.func45, Try.ntmps45
  go_wp2_with fail
  go_loopw [5, 6] (fun o i wr => ∃ k : Nat, k ≤ zs.length ∧ i = .int .i64 k ∧ o = .int .i64 (evP (zs.take k) n) ∧ ∃ q, wr = w.drewN q) (fun _ i _ => zs.length - (intOf i).toNat)
  case atStart => exact ⟨0, Nat.zero_le _, rfl, rfl, 0, rfl⟩
  case round =>
    obtain ⟨k, hk, rfl, rfl, hw⟩ := hrel
    have HW := hidH hw
    clear hw
    by_cases hlt : k < zs.length
    · obtain ⟨z, hz⟩ := get_lt zs k hlt
      obtain ⟨b, off, rfl, _, _, hc⟩ := HC.out k z hz
      have ⟨b1, b2⟩ := (HS.out.take k).bd n h1 h2
      have ⟨b3, b4⟩ := term_bd z n h1 h2 k (by omega) (HS.out.2 z (List.mem_of_getElem? hz))
      have HT := hidH (ev_take n zs k z hz)
      have v1 : IntKind.i64.wrap (z * chN n k) = z * chN n k := IntWalk.i64_in _ (by omega)
      have v2 : IntKind.i64.wrap (evP (zs.take k) n + z * chN n k) = evP (zs.take k) n + z * chN n k := IntWalk.i64_in _ (by omega)
      have hcw : wr.cell? ⟨b, off + k, none⟩ = some (.int .i64 z) := by obtain ⟨q, rfl⟩ := HW.out; rw [World.cell?_drewN]; exact hc
      clear hz hc
      go_wp2_with fail
      go_quiet ((go_at_call 50; exact Calls.quiet_of_same (sChoose_same n h1 h2 k (by omega) _)))
      clear v1 v2
      go_wp2
      go_roundw
      case rel => exact ⟨k + 1, by omega, by go_num, by rw [HT.out], by obtain ⟨q, rfl⟩ := HW.out; exact ⟨q + nq, by rw [World.drewN_drewN]⟩⟩
      case measure => simp [intOf]; omega
    · obtain rfl : k = zs.length := by omega
      go_wp2
      go_ret
      exact ⟨by rw [List.take_of_length_le (Nat.le_refl _)]; rfl, HW.out⟩
set_option maxHeartbeats 400000 in
theorem valueAt_any (v : Value) (zs : List Int) (n : Int) (h1 : -300 ≤ n) (h2 : n ≤ 300) (hs : Small zs) (w : World) (lo hi : Nat) (hv : Lies w lo hi v zs) : Calls Try.prog 47 #[v, .int .i64 n] w fun e w' => e = .returned (.int .i64 (evP zs n)) ∧ ∃ q, w' = w.drewN q := by
  obtain ⟨a, cap, rfl, hlc, hcm, hnil, hcell⟩ := hv
  unfold maxLen at hcm
  have HC := hidH hcell
  have HS := hidH hs
  have hl7 := hs.1
  clear hcell hnil hs
  go_enter Try.func47, Try.ntmps47
  go_wp2_with fail
  go_loopw [5, 9] (fun o i wr => ∃ k : Nat, k ≤ zs.length ∧ i = .int .i64 k ∧ o = .int .i64 (evP (zs.take k) n) ∧ ∃ q, wr = w.drewN q) (fun _ i _ => zs.length - (intOf i).toNat)
  case atStart => exact ⟨0, Nat.zero_le _, rfl, rfl, 0, rfl⟩
  case round =>
    obtain ⟨k, hk, rfl, rfl, hw⟩ := hrel
    have HW := hidH hw
    clear hw
    by_cases hlt : k < zs.length
    · obtain ⟨z, hz⟩ := get_lt zs k hlt
      obtain ⟨b, off, rfl, _, _, hc⟩ := HC.out k z hz
      have ⟨b1, b2⟩ := (HS.out.take k).bd n h1 h2
      have ⟨b3, b4⟩ := term_bd z n h1 h2 k (by omega) (HS.out.2 z (List.mem_of_getElem? hz))
      have HT := hidH (ev_take n zs k z hz)
      have v1 : IntKind.i64.wrap (z * chN n k) = z * chN n k := IntWalk.i64_in _ (by omega)
      have v2 : IntKind.i64.wrap (evP (zs.take k) n + z * chN n k) = evP (zs.take k) n + z * chN n k := IntWalk.i64_in _ (by omega)
      have hcw : wr.cell? ⟨b, off + k, none⟩ = some (.int .i64 z) := by obtain ⟨q, rfl⟩ := HW.out; rw [World.cell?_drewN]; exact hc
      clear hz hc
      go_wp2_with fail
      go_quiet ((go_at_call 53; exact Calls.quiet_of_same (binom_same n h1 h2 k (by omega) _)))
      clear v1 v2
      go_wp2
      go_roundw
      case rel => exact ⟨k + 1, by omega, by go_num, by rw [HT.out], by obtain ⟨q, rfl⟩ := HW.out; exact ⟨q + nq, by rw [World.drewN_drewN]⟩⟩
      case measure => simp [intOf]; omega
    · obtain rfl : k = zs.length := by omega
      go_wp2
      go_ret
      exact ⟨by rw [List.take_of_length_le (Nat.le_refl _)]; rfl, HW.out⟩
end Go.Proofs.Ytliakbgigkajnaa
