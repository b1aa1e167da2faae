/-
  Times of jobs, numbers of engines, the greatest and the least of some numbers: program and model. No conditions but that slices fit in memory.
-/
import Derived.Test.YtcinhmfjnjecdaaDskM
import Derived.Test.YtcinhmfjnjecdaaRndA
import Derived.Test.YtcinhmfjnjecdaaPolyV
namespace Go.Proofs.Ytcinhmfjnjecdaa
set_option maxRecDepth 4000
open Go.RowKit
theorem costV_any (c : Int) (w : World) : Calls Try.prog 42 #[.int .i64 c] w fun e w' => e = .returned (.bool (timeOk c)) ∧ w = w' := by
  cases h : timeOk c
  · have h := of_decide_eq_false h
    by_cases a : c < 0
    · clear h
      go_enter Try.func42, Try.ntmps42
      go_wp2
      go_ret
      exact ⟨rfl, rfl⟩
    · have b : 1000 < c := by omega
      have d : decide (c ≤ 1000) = false := decide_eq_false (by omega)
      clear h
      go_enter Try.func42, Try.ntmps42
      go_wp2
      go_ret
      exact ⟨rfl, rfl⟩
  · have ⟨a, b⟩ := of_decide_eq_true h
    have d : decide (c ≤ 1000) = true := decide_eq_true b
    clear h
    go_enter Try.func42, Try.ntmps42
    go_wp2
    go_ret
    exact ⟨rfl, rfl⟩
theorem unfitT_any (x : Int) (w : World) : Calls Try.prog 41 #[.int .i64 x] w fun e w' => e = .returned (.bool (!timeOk x)) ∧ w = w' := by
  have H := hidH (costV_any x w)
  go_enter Try.func41, Try.ntmps41
  go_wp2_with fail
  refine H.out.mono ?_; rintro e w1 ⟨rfl, rfl⟩
  go_wp2_with fail
  go_ret
  exact ⟨rfl, rfl⟩
theorem indexUnfit (v : Value) (zs : List Int) (w : World) (lo hi : Nat) (hv : Lies w lo hi v zs) : Calls Try.prog 56 #[v, .func (.func 41) #[] #[]] w (Found (zs.any (fun x => !timeOk x)) w) := by
  obtain ⟨a, cap, rfl, hlc, hcm, hnil, hcell⟩ := hv
  unfold maxLen at hcm
  have HC := hidH hcell
  clear hcell hnil
  go_enter Try.func56, Try.ntmps56
  go_wp2
  go_loop [8] (fun i => ∃ k : Nat, k ≤ zs.length ∧ i = .int .i64 k ∧ (zs.take k).any (fun x => !timeOk x) = false) (fun i => zs.length - (intOf i).toNat)
  case atStart => exact ⟨0, Nat.zero_le _, rfl, by simp⟩
  case round =>
    obtain ⟨k, hk, rfl, hn⟩ := hrel
    have HN := hidH hn
    clear hn
    by_cases hlt : k < zs.length
    · obtain ⟨z, hz⟩ := get_lt zs k hlt
      obtain ⟨b, off, rfl, _, _, hcz⟩ := HC.out k z hz
      have HZ := hidH hz
      clear hz
      cases hp : (fun x => !timeOk x) z
      · have HP := hidH hp
        have hcall := unfitT_any z w
        rw [show (!timeOk z) = _ from hp] at hcall
        have HK := hidH hcall
        clear hcall hp
        go_wp2_with (go_at_call 41; refine HK.out.mono ?_; rintro e w' ⟨rfl, rfl⟩)
        go_round
        case rel => exact ⟨k + 1, by omega, by go_num, any_take _ _ _ _ HZ.out HN.out HP.out⟩
        case measure => simp [intOf]; omega
      · have HP := hidH hp
        have hcall := unfitT_any z w
        rw [show (!timeOk z) = _ from hp] at hcall
        have HK := hidH hcall
        clear hcall hp
        go_wp2_with (go_at_call 41; refine HK.out.mono ?_; rintro e w' ⟨rfl, rfl⟩)
        go_ret
        exact ⟨k, rfl, by rw [any_at _ _ _ _ HZ.out HP.out]; exact decide_eq_true (by omega), rfl⟩
    · obtain rfl : k = zs.length := by omega
      go_wp2
      go_ret
      exact ⟨-1, rfl, by have := HN.out; rw [List.take_of_length_le (Nat.le_refl _)] at this; rw [this]; rfl, rfl⟩
theorem containsUnfit (v : Value) (zs : List Int) (w : World) (lo hi : Nat) (hv : Lies w lo hi v zs) : Calls Try.prog 43 #[v, .func (.func 41) #[] #[]] w fun e w' => e = .returned (.bool (zs.any (fun x => !timeOk x))) ∧ w = w' := by
  have HI := hidH (indexUnfit v zs w lo hi hv)
  clear hv
  go_enter Try.func43, Try.ntmps43
  go_wp2_with (go_at_call 56; refine HI.out.mono ?_; rintro e w' ⟨i, rfl, hr, rfl⟩)
  go_ret
  exact ⟨by rw [← hr]; rfl, rfl⟩
theorem any_not (zs : List Int) : (zs.any fun x => !timeOk x) = !zs.all timeOk := by
  induction zs with
  | nil => rfl
  | cons x zs ih => rw [List.any_cons, List.all_cons, ih, Bool.not_and]
theorem timesV_any (v : Value) (zs : List Int) (w : World) (lo hi : Nat) (hv : Lies w lo hi v zs) : Calls Try.prog 16 #[v] w fun e w' => e = .returned (.bool (timesOk zs)) ∧ w = w' := by
  have HI := hidH (containsUnfit v zs w lo hi hv)
  obtain ⟨a, cap, rfl, hlc, hcm, hnil, hcell⟩ := hv
  unfold maxLen at hcm
  clear hcell hnil
  unfold timesOk
  by_cases hl : zs.length ≤ 8
  · rw [decide_eq_true hl, Bool.true_and]
    have HA := hidH (any_not zs)
    generalize zs.all timeOk = r at *
    go_enter Try.func16, Try.ntmps16
    go_wp2_with fail
    refine HI.out.mono ?_; rintro e w1 ⟨rfl, rfl⟩
    rw [HA.out]
    go_wp2_with fail
    go_ret
    exact ⟨rfl, rfl⟩
  · rw [decide_eq_false hl, Bool.false_and]
    have hl' : decide ((zs.length : Int) ≤ 8) = false := decide_eq_false (by omega)
    go_enter Try.func16, Try.ntmps16
    go_wp2_with fail
    go_ret
    exact ⟨rfl, rfl⟩
theorem sTimesV_any (v : Value) (zs : List Int) (w : World) (lo hi : Nat) (hv : Lies w lo hi v zs) : Calls Try.prog 53 #[v] w fun e w' => e = .returned (.bool (timesOk zs)) ∧ w = w' := by
  obtain ⟨a, cap, rfl, hlc, hcm, hnil, hcell⟩ := hv
  unfold maxLen at hcm
  have HC := hidH hcell
  clear hcell hnil
  go_enter Try.func53, Try.ntmps53
  go_wp2
  go_loop [3] (fun i => ∃ k : Nat, k ≤ zs.length ∧ i = .int .i64 k ∧ ∀ (j : Nat) (x : Int), j < k → zs[j]? = some x → timeOk x = true) (fun i => zs.length - (intOf i).toNat)
  case atStart => exact ⟨0, Nat.zero_le _, rfl, fun j x h => absurd h (Nat.not_lt_zero _)⟩
  case round =>
    obtain ⟨k, hk, rfl, hn⟩ := hrel
    have HN := hidH hn
    clear hn
    by_cases hlt : k < zs.length
    · obtain ⟨z, hz⟩ := get_lt zs k hlt
      obtain ⟨b, off, rfl, _, _, hcz⟩ := HC.out k z hz
      have HZ := hidH hz
      clear hz
      have HI := hidH (sIn_any z 0 1000 (timeOk z) rfl w)
      cases hp : timeOk z
      · have HP := hidH hp
        rw [hp] at HI
        have HN0 := hidH (timesOk_no k z HZ.out hp)
        clear hp
        go_wp2_with fail
        refine HI.out.mono ?_; rintro e w1 ⟨rfl, rfl⟩
        go_wp2_with fail
        go_ret
        exact ⟨by rw [HN0.out]; rfl, rfl⟩
      · have HP := hidH hp
        rw [hp] at HI
        clear hp
        go_wp2_with fail
        refine HI.out.mono ?_; rintro e w1 ⟨rfl, rfl⟩
        go_wp2_with fail
        go_round
        case rel =>
          refine ⟨k + 1, by omega, by go_num, fun j x hj hx => ?_⟩
          by_cases e : j = k
          · subst e; rw [HZ.out] at hx; injection hx with hx; rw [← hx]; exact HP.out
          · exact HN.out j x (by omega) hx
        case measure => simp [intOf]; omega
    · obtain rfl : k = zs.length := by omega
      have HE : Hid (timesOk zs = decide ((zs.length : Int) ≤ 8)) := by
        show timesOk zs = decide ((zs.length : Int) ≤ 8)
        by_cases hl : zs.length ≤ 8
        · rw [decide_eq_true (by omega)]
          exact timesOk_of hl (fun j x hj => HN.out j x (List.getElem?_eq_some_iff.1 hj).1 hj)
        · rw [decide_eq_false (by omega), timesOk, decide_eq_false hl]; rfl
      clear HN
      go_wp2_with fail
      go_ret
      exact ⟨by rw [HE.out]; rfl, rfl⟩
theorem engV_any (n : Int) (w : World) : Calls Try.prog 31 #[.int .i64 n] w fun e w' => e = .returned (.bool (nEngOk n)) ∧ w = w' := by
  have H := hidH (between_any n 1 3 (nEngOk n) rfl w)
  go_enter Try.func31, Try.ntmps31
  go_wp2_with fail
  refine H.out.mono ?_; rintro e w1 ⟨rfl, rfl⟩
  go_wp2_with fail
  go_ret
  exact ⟨rfl, rfl⟩
theorem sEng_any (v : Value) (zs : List Int) (n : Int) (w : World) (lo hi : Nat) (hv : Lies w lo hi v zs) : Calls Try.prog 35 #[v, .int .i64 n] w fun e w' => e = .returned (.bool (timesOk zs && nEngOk n)) ∧ w = w' := by
  have H1 := hidH (sTimesV_any v zs w lo hi hv)
  have H2 := hidH (sIn_any n 1 3 (nEngOk n) rfl w)
  clear hv
  generalize nEngOk n = r2 at *
  generalize timesOk zs = r1 at *
  cases r1
  · go_enter Try.func35, Try.ntmps35
    go_wp2_with fail
    refine H1.out.mono ?_; rintro e w1 ⟨rfl, rfl⟩
    go_wp2_with fail
    go_ret
    exact ⟨rfl, rfl⟩
  · go_enter Try.func35, Try.ntmps35
    go_wp2_with fail
    refine H1.out.mono ?_; rintro e w1 ⟨rfl, rfl⟩
    go_wp2_with fail
    refine H2.out.mono ?_; rintro e w1 ⟨rfl, rfl⟩
    go_wp2_with fail
    go_ret
    exact ⟨rfl, rfl⟩
theorem sliceMax_any (v : Value) (zs : List Int) (w : World) (lo hi : Nat) (hv : Lies w lo hi v zs) (z0 : Int) (hz0 : zs[0]? = some z0) : Calls Try.prog 52 #[v] w fun e w' => e = .returned (.int .i64 (zs.foldl max z0)) ∧ w' = w := by
  have h0 : 0 < zs.length := (List.getElem?_eq_some_iff.1 hz0).1
  obtain ⟨b, off, cap, rfl, hlc, hcm, _, _, hbw, hcell⟩ := hv.addr h0
  unfold maxLen at hcm
  have HC := hidH hcell
  have c0 : w.cell? ⟨b, off, none⟩ = some (.int .i64 z0) := HC.out 0 z0 hz0
  have H0 := hidH hz0
  clear hcell hz0
  go_enter Try.func52, Try.ntmps52
  go_wp2_with fail
  go_loop [3, 4] (fun u i => ∃ k : Nat, 1 ≤ k ∧ k ≤ zs.length ∧ i = .int .i64 k ∧ u = .int .i64 ((zs.take k).foldl max z0)) (fun _ i => zs.length - (intOf i).toNat)
  case atStart => exact ⟨1, Nat.le_refl _, h0, rfl, by rw [take_next zs 0 z0 H0.out]; show _ = Value.int .i64 (max z0 z0); rw [show max z0 z0 = z0 by omega]⟩
  case round =>
    obtain ⟨k, hk1, hk, rfl, rfl⟩ := hrel
    by_cases hlt : k < zs.length
    · obtain ⟨z, hz⟩ := get_lt zs k hlt
      have c := HC.out k z hz
      have HZ := hidH (take_next zs k z hz)
      clear hz
      have HM : Hid ((zs.take (k + 1)).foldl max z0 = max ((zs.take k).foldl max z0) z) := by
        show (zs.take (k + 1)).foldl max z0 = _
        rw [HZ.out, List.foldl_append]; rfl
      generalize (zs.take k).foldl max z0 = u at *
      go_wp2_with fail
      go_round
      case rel => exact ⟨k + 1, by omega, by omega, by go_num, by rw [HM.out]; congr 1; split <;> omega⟩
      case measure => simp [intOf]; omega
    · obtain rfl : k = zs.length := by omega
      go_wp2_with fail
      go_ret
      exact ⟨rfl, rfl⟩
theorem sliceMin_any (v : Value) (zs : List Int) (w : World) (lo hi : Nat) (hv : Lies w lo hi v zs) (z0 : Int) (hz0 : zs[0]? = some z0) : Calls Try.prog 58 #[v] w fun e w' => e = .returned (.int .i64 (zs.foldl min z0)) ∧ w' = w := by
  have h0 : 0 < zs.length := (List.getElem?_eq_some_iff.1 hz0).1
  obtain ⟨b, off, cap, rfl, hlc, hcm, _, _, hbw, hcell⟩ := hv.addr h0
  unfold maxLen at hcm
  have HC := hidH hcell
  have c0 : w.cell? ⟨b, off, none⟩ = some (.int .i64 z0) := HC.out 0 z0 hz0
  have H0 := hidH hz0
  clear hcell hz0
  go_enter Try.func58, Try.ntmps58
  go_wp2_with fail
  go_loop [3, 4] (fun u i => ∃ k : Nat, 1 ≤ k ∧ k ≤ zs.length ∧ i = .int .i64 k ∧ u = .int .i64 ((zs.take k).foldl min z0)) (fun _ i => zs.length - (intOf i).toNat)
  case atStart => exact ⟨1, Nat.le_refl _, h0, rfl, by rw [take_next zs 0 z0 H0.out]; show _ = Value.int .i64 (min z0 z0); rw [show min z0 z0 = z0 by omega]⟩
  case round =>
    obtain ⟨k, hk1, hk, rfl, rfl⟩ := hrel
    by_cases hlt : k < zs.length
    · obtain ⟨z, hz⟩ := get_lt zs k hlt
      have c := HC.out k z hz
      have HZ := hidH (take_next zs k z hz)
      clear hz
      have HM : Hid ((zs.take (k + 1)).foldl min z0 = min ((zs.take k).foldl min z0) z) := by
        show (zs.take (k + 1)).foldl min z0 = _
        rw [HZ.out, List.foldl_append]; rfl
      generalize (zs.take k).foldl min z0 = u at *
      go_wp2_with fail
      go_round
      case rel => exact ⟨k + 1, by omega, by omega, by go_num, by rw [HM.out]; congr 1; split <;> omega⟩
      case measure => simp [intOf]; omega
    · obtain rfl : k = zs.length := by omega
      go_wp2_with fail
      go_ret
      exact ⟨rfl, rfl⟩
theorem sliceIndex_any (v : Value) (zs : List Int) (x : Int) (w : World) (lo hi : Nat) (hv : Lies w lo hi v zs) (k0 : Nat) (hx : zs[k0]? = some x) (hlow : ∀ (j : Nat) (y : Int), j < k0 → zs[j]? = some y → x < y) : Calls Try.prog 57 #[v, .int .i64 x] w fun e w' => e = .returned (.int .i64 (k0 : Int)) ∧ w' = w := by
  have hk0 := (List.getElem?_eq_some_iff.1 hx).1
  obtain ⟨b, off, cap, rfl, hlc, hcm, _, _, hbw, hcell⟩ := hv.addr (by omega)
  unfold maxLen at hcm
  have HC := hidH hcell
  have HX := hidH hx
  have HL := hidH hlow
  clear hcell hx hlow
  go_enter Try.func57, Try.ntmps57
  go_wp2_with fail
  go_loop [8] (fun i => ∃ k : Nat, k ≤ k0 ∧ i = .int .i64 k) (fun i => zs.length - (intOf i).toNat)
  case atStart => exact ⟨0, Nat.zero_le _, rfl⟩
  case round =>
    obtain ⟨k, hk, rfl⟩ := hrel
    obtain ⟨z, hz⟩ := get_lt zs k (by omega)
    have c := HC.out k z hz
    by_cases e : k = k0
    · subst e
      rw [HX.out] at hz
      injection hz with hz
      subst hz
      go_wp2_with fail
      go_ret
      exact ⟨rfl, rfl⟩
    · have hxz : (x == z) = false := by
        have := HL.out k z (by omega) hz
        rw [beq_eq_false_iff_ne]; omega
      clear hz
      go_wp2_with fail
      go_round
      case rel => exact ⟨k + 1, by omega, by go_num⟩
      case measure => simp [intOf]; omega
end Go.Proofs.Ytcinhmfjnjecdaa
