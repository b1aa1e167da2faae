/-
  The walks of the program's binomial coefficients and values of polynomials, and of the model's. Conditions: arguments between -300 and 300 and valid polynomials where a contract says so.
  Differences of a list and its first differences: the program. Condition: slices of at most 1048576 numbers.
-/
import Derived.Test.YtcinhmfjnjecdaaPolyS
import Derived.Test.YtcinhmfjnjecdaaPolyV
import Derived.IntWalk
import Derived.Test.YtcinhmfjnjecdaaSl
import Derived.Laws.CopyOwn
import Derived.BigRegion
namespace Go.Proofs.Ytcinhmfjnjecdaa
set_option maxRecDepth 4000
open Go.RowKit
theorem binom_any (n : Int) (h1 : -300 ≤ n) (h2 : n ≤ 300) (k : Nat) (hk : k ≤ 6) (w : World) : Calls Try.prog 103 #[.int .i64 n, .int .i64 k] w fun e w' => e = .returned (.int .i64 (chN n k)) ∧ w = w' := by
  go_enter Try.func103, Try.ntmps103
  go_wp2
  go_loop [5, 8] (fun o i => ∃ j : Nat, j ≤ k ∧ i = .int .i64 j ∧ o = .int .i64 (chN n j)) (fun _ i => k - (intOf i).toNat)
  case atStart => exact ⟨0, Nat.zero_le _, rfl, rfl⟩
  case round =>
    obtain ⟨j, hj, rfl, rfl⟩ := hrel
    by_cases hlt : j < k
    · have ⟨b1, b2⟩ := chN_mul_bd n h1 h2 j (by omega)
      have ⟨b3, b4⟩ := chN_bd n h1 h2 j (by omega)
      have ⟨b5, b6⟩ := chN_bd n h1 h2 (j + 1) (by omega)
      go_wp2
      go_round
      case rel => exact ⟨j + 1, by omega, by go_num, by rw [chN]⟩
      case measure => simp [intOf]; omega
    · go_wp2
      obtain rfl : j = k := by omega
      go_ret
      exact ⟨rfl, rfl⟩
theorem ev_take (n : Int) (zs : List Int) (k : Nat) (z : Int) (hz : zs[k]? = some z) : evP (zs.take (k + 1)) n = evP (zs.take k) n + z * chN n k := by
  have hk := (List.getElem?_eq_some_iff.1 hz).1
  unfold evP
  rw [List.take_add_one, hz, Option.toList_some, ev_snoc, List.length_take, Nat.zero_add, Nat.min_eq_left (by omega)]
theorem Small.take {p : List Int} (h : Small p) (k : Nat) : Small (p.take k) := ⟨by rw [List.length_take]; have := h.1; omega, fun x hx => h.2 x (List.mem_of_mem_take hx)⟩
theorem term_bd (z n : Int) (h1 : -300 ≤ n) (h2 : n ≤ 300) (k : Nat) (hk : k ≤ 6) (hz : -100000 ≤ z ∧ z ≤ 100000) : -120000000000000000 ≤ z * chN n k ∧ z * chN n k ≤ 120000000000000000 := by
  have ⟨a, b⟩ := chN_bd n h1 h2 k hk
  have h := abs_mul_le (a := z) (b := chN n k) (A := 100000) (B := 1200000000000) (by omega) (by omega)
  omega
theorem binom_same (n : Int) (h1 : -300 ≤ n) (h2 : n ≤ 300) (k : Nat) (hk : k ≤ 6) (w : World) : Calls Try.prog 103 #[.int .i64 n, .int .i64 k] w fun e w' => e = .returned (.int .i64 (chN n k)) ∧ w' = w :=
  (binom_any n h1 h2 k hk w).mono fun _ _ ⟨a, b⟩ => ⟨a, b.symm⟩
set_option maxHeartbeats 400000 in
theorem sEvalL_any (v : Value) (zs : List Int) (n : Int) (h1 : -300 ≤ n) (h2 : n ≤ 300) (hs : Small zs) (w : World) (lo hi : Nat) (hv : Lies w lo hi v zs) : Calls Try.prog 101 #[v, .int .i64 n] w fun e w' => e = .returned (.int .i64 (evP zs n)) ∧ ∃ q, w' = w.drewN q := by
  obtain ⟨a, cap, rfl, hlc, hcm, hnil, hcell⟩ := hv
  unfold maxLen at hcm
  have HC := hidH hcell
  have HS := hidH hs
  have hl7 := hs.1
  clear hcell hnil hs
  go_enter Try.func101, Try.ntmps101
  go_wp2_with fail
  go_loopw [5, 6] (fun o i wr => ∃ k : Nat, k ≤ zs.length ∧ i = .int .i64 k ∧ o = .int .i64 (evP (zs.take k) n) ∧ ∃ q, wr = w.drewN q) (fun _ i _ => zs.length - (intOf i).toNat)
  case atStart => exact ⟨0, Nat.zero_le _, rfl, rfl, 0, rfl⟩
  case round =>
    obtain ⟨k, hk, rfl, rfl, hw⟩ := hrel
    have HW := hidH hw
    clear hw
    by_cases hlt : k < zs.length
    · obtain ⟨z, hz⟩ := get_lt zs k hlt
      obtain ⟨b, off, rfl, _, _, hc⟩ := HC.out k z hz
      have ⟨b1, b2⟩ := (HS.out.take k).bd n h1 h2
      have ⟨b3, b4⟩ := term_bd z n h1 h2 k (by omega) (HS.out.2 z (List.mem_of_getElem? hz))
      have HT := hidH (ev_take n zs k z hz)
      have v1 : IntKind.i64.wrap (z * chN n k) = z * chN n k := IntWalk.i64_in _ (by omega)
      have v2 : IntKind.i64.wrap (evP (zs.take k) n + z * chN n k) = evP (zs.take k) n + z * chN n k := IntWalk.i64_in _ (by omega)
      have hcw : wr.cell? ⟨b, off + k, none⟩ = some (.int .i64 z) := by obtain ⟨q, rfl⟩ := HW.out; rw [World.cell?_drewN]; exact hc
      clear hz hc
      go_wp2_with fail
      go_quiet ((go_at_call 105; exact Calls.quiet_of_same (sChoose_same n h1 h2 k (by omega) _)))
      clear v1 v2
      go_wp2
      go_roundw
      case rel => exact ⟨k + 1, by omega, by go_num, by rw [HT.out], by obtain ⟨q, rfl⟩ := HW.out; exact ⟨q + nq, by rw [World.drewN_drewN]⟩⟩
      case measure => simp [intOf]; omega
    · obtain rfl : k = zs.length := by omega
      go_wp2
      go_ret
      exact ⟨by rw [List.take_of_length_le (Nat.le_refl _)]; rfl, HW.out⟩
set_option maxHeartbeats 400000 in
theorem valueAt_any (v : Value) (zs : List Int) (n : Int) (h1 : -300 ≤ n) (h2 : n ≤ 300) (hs : Small zs) (w : World) (lo hi : Nat) (hv : Lies w lo hi v zs) : Calls Try.prog 98 #[v, .int .i64 n] w fun e w' => e = .returned (.int .i64 (evP zs n)) ∧ ∃ q, w' = w.drewN q := by
  obtain ⟨a, cap, rfl, hlc, hcm, hnil, hcell⟩ := hv
  unfold maxLen at hcm
  have HC := hidH hcell
  have HS := hidH hs
  have hl7 := hs.1
  clear hcell hnil hs
  go_enter Try.func98, Try.ntmps98
  go_wp2_with fail
  go_loopw [5, 9] (fun o i wr => ∃ k : Nat, k ≤ zs.length ∧ i = .int .i64 k ∧ o = .int .i64 (evP (zs.take k) n) ∧ ∃ q, wr = w.drewN q) (fun _ i _ => zs.length - (intOf i).toNat)
  case atStart => exact ⟨0, Nat.zero_le _, rfl, rfl, 0, rfl⟩
  case round =>
    obtain ⟨k, hk, rfl, rfl, hw⟩ := hrel
    have HW := hidH hw
    clear hw
    by_cases hlt : k < zs.length
    · obtain ⟨z, hz⟩ := get_lt zs k hlt
      obtain ⟨b, off, rfl, _, _, hc⟩ := HC.out k z hz
      have ⟨b1, b2⟩ := (HS.out.take k).bd n h1 h2
      have ⟨b3, b4⟩ := term_bd z n h1 h2 k (by omega) (HS.out.2 z (List.mem_of_getElem? hz))
      have HT := hidH (ev_take n zs k z hz)
      have v1 : IntKind.i64.wrap (z * chN n k) = z * chN n k := IntWalk.i64_in _ (by omega)
      have v2 : IntKind.i64.wrap (evP (zs.take k) n + z * chN n k) = evP (zs.take k) n + z * chN n k := IntWalk.i64_in _ (by omega)
      have hcw : wr.cell? ⟨b, off + k, none⟩ = some (.int .i64 z) := by obtain ⟨q, rfl⟩ := HW.out; rw [World.cell?_drewN]; exact hc
      clear hz hc
      go_wp2_with fail
      go_quiet ((go_at_call 103; exact Calls.quiet_of_same (binom_same n h1 h2 k (by omega) _)))
      clear v1 v2
      go_wp2
      go_roundw
      case rel => exact ⟨k + 1, by omega, by go_num, by rw [HT.out], by obtain ⟨q, rfl⟩ := HW.out; exact ⟨q + nq, by rw [World.drewN_drewN]⟩⟩
      case measure => simp [intOf]; omega
    · obtain rfl : k = zs.length := by omega
      go_wp2
      go_ret
      exact ⟨by rw [List.take_of_length_le (Nat.le_refl _)]; rfl, HW.out⟩
end Go.Proofs.Ytcinhmfjnjecdaa
namespace Go.Proofs.Ytcinhmfjnjecdaa
set_option maxRecDepth 4000
open Go.RowKit
theorem wrap_i (x : Int) : IntKind.i64.wrap x = wrap64 x := by rw [IntKind.wrap_i64]; unfold wrap64; omega
theorem made_ints (n : Nat) : madeCells #[Value.int .i64 0] n = (ints (List.replicate n 0)).toArray := by
  unfold madeCells ints
  apply Array.ext
  · simp
  · intro i h1 h2
    simp [Nat.mod_one]
theorem blk_of_heap {w : World} {g t : Nat} {zs : List Int} (h : w.heap[g]? = some (.cells (ints zs).toArray t (0, 0))) : Blk w g zs := by
  have hlt : g < w.heap.size := (Array.getElem?_eq_some_iff.1 h).1
  refine ⟨hlt, fun j z hj => ⟨?_, ?_⟩⟩
  · unfold World.cell?
    rw [h]
    simp [ints, hj]
  · unfold World.frozen?
    rw [h]
    simp
theorem splice_whole (A B : List Int) (h : A.length = B.length) : splice (ints A) 0 (ints B) = ints B := by
  simp [splice, ints, h]
theorem fill_row {w : World} {b : Nat} {T : List Int} (H : Blk w b (fill T T.length)) : Blk w b T := by rwa [fill_all] at H
/-- A call that answers a row from lo on and a truth. -/
def RowFrom (lo : Nat) (zs : List Int) (b : Bool) (w : World) (e : Ending) (w' : World) : Prop := ∃ v, e = .returned (.tuple #[v, .bool b]) ∧ Row w' lo w'.heap.size v zs ∧ Below w.heap.size w w'
theorem ifPoly_any (v : Value) (zs : List Int) (w : World) (lo : Nat) (hv : Row w lo w.heap.size v zs) : Calls Try.prog 87 #[v] w (RowFrom lo (resL zs) (polyOk zs) w) := by
  have HV := hidH hv
  clear hv
  cases h : polyOk zs
  · have HZ := hidH h
    have HE := hidH (show resL zs = [] by rw [resL, h]; rfl)
    clear h
    go_enter Try.func87, Try.ntmps87
    go_wp2_with fail
    refine (polyValid_any v zs _ _ _ HV.out.lies).mono ?_; rintro e w1 ⟨rfl, hb⟩
    rw [HZ.out]
    go_wp2_with fail
    go_ret2
    rw [HE.out]
    exact ⟨_, rfl, Row.nil _ _ _ _ _ (Nat.zero_le _) (fun _ => rfl), hb⟩
  · have HZ := hidH h
    have HE := hidH (show resL zs = zs by rw [resL, h]; rfl)
    clear h
    go_enter Try.func87, Try.ntmps87
    go_wp2_with fail
    refine (polyValid_any v zs _ _ _ HV.out.lies).mono ?_; rintro e w1 ⟨rfl, hb⟩
    rw [HZ.out]
    have HB := hidH hb
    clear hb
    go_wp2_with fail
    go_ret2
    rw [HE.out]
    exact ⟨_, rfl, (HV.out.below HB.out).mono (Nat.le_refl _) HB.out.size, HB.out⟩
end Go.Proofs.Ytcinhmfjnjecdaa
