/-
  RoundError: the program, at every argument. No conditions but that slices fit in memory.
-/
import Derived.Test.YtnndeiiolnefkaaRndD
import Derived.BigQuiet
namespace Go.Proofs.Ytnndeiiolnefkaa
set_option maxRecDepth 4000
open Go.RowKit
theorem drewN_add6 (w : World) (a b : Nat) : (w.drewN a).drewN b = w.drewN (a + b) := by simp [World.drewN, Nat.add_assoc]
theorem roundError_no (v0 : Value) (zs0 : List Int) (d way : Int) (w : World) (lo0 hi0 : Nat) (hv0 : Lies w lo0 hi0 v0 zs0) (h : rtabB zs0 d way = false) : Calls Try.prog 17 #[v0, .int .i64 d, .int .i64 way] w (Gives (.int .i64 (-1)) w) := by
  have HV0 := hidH hv0
  clear hv0
  unfold rtabB at h
  cases hw : wayOk d way
  · have HR := hidH (roundingOf_no d way hw w)
    have hst := fun W => store_fun W 0 .nilFunc rfl
    clear hw h
    go_enter Try.func17, Try.ntmps17
    go_wp2_with fail
    refine HR.out.mono ?_; rintro e w1 ⟨rfl, hb⟩
    have HB := hidH (bMore hb (.cells #[.int .i64 0, .nilFunc] 57))
    clear hb
    go_wp2_with fail
    go_ret
    exact ⟨rfl, HB.out⟩
  · obtain ⟨k, rfl, k6, w0, w2, hu⟩ := wayOk_parts hw
    rw [hw, Bool.and_true] at h
    have HT := hidH h
    have HR := hidH (roundingOf_yes k way k6 w0 w2 w)
    generalize tenP k = u at *
    have hst := fun W => store_fun W u (rFun u way) rfl
    clear hw h
    go_enter Try.func17, Try.ntmps17
    go_wp2_with fail
    refine HR.out.mono ?_; rintro e w1 ⟨rfl, hb⟩
    have HB := hidH (bMore hb (.cells #[.int .i64 u, rFun u way] 57))
    clear hb
    go_wp2_with fail
    refine (tableValid_any _ zs0 _ _ _ (HV0.out.below HB.out)).mono ?_; rintro e w2 ⟨rfl, hb⟩
    rw [HT.out]
    have HB2 := hidH (bThen HB.out hb)
    clear hb
    go_wp2_with fail
    go_ret
    exact ⟨rfl, HB2.out⟩
theorem eMax_step (u way : Int) (zs : List Int) (k : Nat) (z : Int) (h : zs[k]? = some z) : eMax u way zs (k + 1) = max (eMax u way zs k) (max (z - rndI z u way * u) (-(z - rndI z u way * u))) := by
  rw [eMax, getD_of h, rDif]
theorem rnd_prod (n u way : Int) (hu : IsUnit u) (h1 : -1000000000 ≤ n) (h2 : n ≤ 1000000000) : -1001000000 ≤ rndI n u way * u ∧ rndI n u way * u ≤ 1001000000 ∧ -1000000 < n - rndI n u way * u ∧ n - rndI n u way * u < 1000000 := by
  have hb := hu.bd
  have := rDif_bd u way n hu (by omega)
  unfold rDif at this
  omega
set_option maxHeartbeats 1600000 in
theorem roundError_yes0 (v0 : Value) (zs0 : List Int) (k : Nat) (w : World) (lo0 hi0 : Nat) (hv0 : Lies w lo0 hi0 v0 zs0) (h : tableOk zs0 = true) (k6 : k ≤ 6) : Calls Try.prog 17 #[v0, .int .i64 k, .int .i64 0] w (Gives (.int .i64 (eMax (tenP k) 0 zs0 zs0.length)) w) := by
  have HV0_0 := hidH hv0
  have ⟨ht1, ht2⟩ := tableOk_len _ h
  have hu : IsUnit (tenP k) := by have := unit_of (k : Int) (by omega) (by omega); rwa [Int.toNat_natCast] at this
  have HR := hidH (roundingOf_yes k 0 k6 (by omega) (by omega) w)
  generalize tenP k = u at *
  rw [show rFun u 0 = .func (.func 57) #[.int .i64 u] #[] from rfl] at HR
  have hst := fun W => store_fun W u (.func (.func 57) #[.int .i64 u] #[]) rfl
  have HC := hidH (fun n n1 n2 W' => down_any u n hu n1 n2 W')
  obtain ⟨b0, off0, cap0, rfl, hlc0, hcm0, hlo0, hhi0, hbw0, hcell0⟩ := hv0.addr (by omega)
  have HCELL := hidH hcell0
  have HU := hidH hu
  have ⟨hub1, hub2⟩ := hu.bd
  clear hv0 hcell0 hu
  have HC0 := hidH h
  clear h
  unfold maxLen at hcm0
  go_enter Try.func17, Try.ntmps17
  go_wp2_with fail
  refine HR.out.mono ?_; rintro e w1 ⟨rfl, hb⟩
  have HB1 := hidH hb
  have BB := hidH (bMore hb (.cells #[.int .i64 u, .func (.func 57) #[.int .i64 u] #[]] 57))
  have HG0 := hidH (RndAt.fresh w1 u (.func (.func 57) #[.int .i64 u] #[]))
  have hsz1 := hb.size
  clear hb
  go_wp2_with fail
  refine (tableValid_any _ zs0 _ _ _ (HV0_0.out.below BB.out)).mono ?_; rintro e w2 ⟨rfl, hb⟩
  rw [HC0.out]
  have HB2 := hidH (bThen BB.out hb)
  have HG := hidH (HG0.out.below hb)
  have hsz2 := hb.size
  rw [World.size_alloc] at hsz2
  clear hb HV0_0 HR HB1 BB HG0
  have hc0 := HG.out.cell0
  have hc1 := HG.out.cell1
  go_wp2_with fail
  go_loopw [9, 28] (fun g i wr => ∃ (k : Nat) (gg : Int), k ≤ zs0.length ∧ i = .int .i64 k ∧ g = .int .i64 gg ∧ gg = eMax u 0 zs0 k ∧ ∃ q, wr = w2.drewN q) (fun _ i _ => zs0.length - (intOf i).toNat)
  case atStart => exact ⟨0, 0, Nat.zero_le _, rfl, rfl, rfl, 0, rfl⟩
  case round =>
    obtain ⟨k, gg, hk, rfl, rfl, hgg, q, rfl⟩ := hrel
    have ⟨hg1, hg2, _⟩ := eMax_bd u 0 zs0 HU.out k
    rw [← hgg] at hg1 hg2
    have HGG := hidH hgg
    clear hgg
    by_cases hlt : k < zs0.length
    · obtain ⟨z, hz⟩ := get_lt zs0 k hlt
      have ⟨z1, z2⟩ := tab_bd HC0.out hz
      have hcz := HCELL.out k z hz
      have hcw : w2.cell? ⟨b0, off0 + k, none⟩ = some (.int .i64 z) := by rw [HB2.out.cell (p := ⟨b0, off0 + k, none⟩) hbw0]; exact hcz
      have HES := hidH (eMax_step u 0 zs0 k z hz)
      rw [← HGG.out] at HES
      have HCZ := hidH (HC.out z z1 z2)
      have ⟨p1, p2, p3, p4⟩ := rnd_prod z u 0 HU.out z1 z2
      clear hcz hz
      generalize rndI z u 0 = rz at *
      have hw1 : wrap64 (rz * u) = rz * u := IntWalk.wrap64_in _ (by omega)
      have hw2 : IntKind.i64.wrap (rz * u) = rz * u := IntWalk.i64_in _ (by omega)
      go_wp2_with fail
      go_region_with ((go_at_call 57; (with_reducible refine (HCZ.out _).mono ?_); rintro e wd ⟨rfl, q2, rfl⟩))
      all_goals (
        go_wp2_with fail
        go_roundw
        case rel => exact ⟨k + 1, _, by omega, by go_num, rfl, by rw [HES.out]; generalize z - rz * u = d; (repeat' split) <;> omega, _, by first | rfl | exact drewN_add6 _ _ _⟩
        case measure => simp [intOf]; omega)
    · obtain rfl : k = zs0.length := by omega
      go_wp2_with fail
      go_ret
      exact ⟨by rw [HGG.out]; rfl, below_drewN HB2.out q⟩
set_option maxHeartbeats 1600000 in
theorem roundError_yes1 (v0 : Value) (zs0 : List Int) (k : Nat) (w : World) (lo0 hi0 : Nat) (hv0 : Lies w lo0 hi0 v0 zs0) (h : tableOk zs0 = true) (k6 : k ≤ 6) : Calls Try.prog 17 #[v0, .int .i64 k, .int .i64 1] w (Gives (.int .i64 (eMax (tenP k) 1 zs0 zs0.length)) w) := by
  have HV0_0 := hidH hv0
  have ⟨ht1, ht2⟩ := tableOk_len _ h
  have hu : IsUnit (tenP k) := by have := unit_of (k : Int) (by omega) (by omega); rwa [Int.toNat_natCast] at this
  have HR := hidH (roundingOf_yes k 1 k6 (by omega) (by omega) w)
  generalize tenP k = u at *
  rw [show rFun u 1 = .func (.func 58) #[.int .i64 u] #[] from rfl] at HR
  have hst := fun W => store_fun W u (.func (.func 58) #[.int .i64 u] #[]) rfl
  have HC := hidH (fun n n1 n2 W' => near_any u n hu n1 n2 W')
  obtain ⟨b0, off0, cap0, rfl, hlc0, hcm0, hlo0, hhi0, hbw0, hcell0⟩ := hv0.addr (by omega)
  have HCELL := hidH hcell0
  have HU := hidH hu
  have ⟨hub1, hub2⟩ := hu.bd
  clear hv0 hcell0 hu
  have HC0 := hidH h
  clear h
  unfold maxLen at hcm0
  go_enter Try.func17, Try.ntmps17
  go_wp2_with fail
  refine HR.out.mono ?_; rintro e w1 ⟨rfl, hb⟩
  have HB1 := hidH hb
  have BB := hidH (bMore hb (.cells #[.int .i64 u, .func (.func 58) #[.int .i64 u] #[]] 57))
  have HG0 := hidH (RndAt.fresh w1 u (.func (.func 58) #[.int .i64 u] #[]))
  have hsz1 := hb.size
  clear hb
  go_wp2_with fail
  refine (tableValid_any _ zs0 _ _ _ (HV0_0.out.below BB.out)).mono ?_; rintro e w2 ⟨rfl, hb⟩
  rw [HC0.out]
  have HB2 := hidH (bThen BB.out hb)
  have HG := hidH (HG0.out.below hb)
  have hsz2 := hb.size
  rw [World.size_alloc] at hsz2
  clear hb HV0_0 HR HB1 BB HG0
  have hc0 := HG.out.cell0
  have hc1 := HG.out.cell1
  go_wp2_with fail
  go_loopw [9, 28] (fun g i wr => ∃ (k : Nat) (gg : Int), k ≤ zs0.length ∧ i = .int .i64 k ∧ g = .int .i64 gg ∧ gg = eMax u 1 zs0 k ∧ ∃ q, wr = w2.drewN q) (fun _ i _ => zs0.length - (intOf i).toNat)
  case atStart => exact ⟨0, 0, Nat.zero_le _, rfl, rfl, rfl, 0, rfl⟩
  case round =>
    obtain ⟨k, gg, hk, rfl, rfl, hgg, q, rfl⟩ := hrel
    have ⟨hg1, hg2, _⟩ := eMax_bd u 1 zs0 HU.out k
    rw [← hgg] at hg1 hg2
    have HGG := hidH hgg
    clear hgg
    by_cases hlt : k < zs0.length
    · obtain ⟨z, hz⟩ := get_lt zs0 k hlt
      have ⟨z1, z2⟩ := tab_bd HC0.out hz
      have hcz := HCELL.out k z hz
      have hcw : w2.cell? ⟨b0, off0 + k, none⟩ = some (.int .i64 z) := by rw [HB2.out.cell (p := ⟨b0, off0 + k, none⟩) hbw0]; exact hcz
      have HES := hidH (eMax_step u 1 zs0 k z hz)
      rw [← HGG.out] at HES
      have HCZ := hidH (HC.out z z1 z2)
      have ⟨p1, p2, p3, p4⟩ := rnd_prod z u 1 HU.out z1 z2
      clear hcz hz
      generalize rndI z u 1 = rz at *
      have hw1 : wrap64 (rz * u) = rz * u := IntWalk.wrap64_in _ (by omega)
      have hw2 : IntKind.i64.wrap (rz * u) = rz * u := IntWalk.i64_in _ (by omega)
      go_wp2_with fail
      go_region_with ((go_at_call 58; (with_reducible refine (HCZ.out _).mono ?_); rintro e wd ⟨rfl, q2, rfl⟩))
      all_goals (
        go_wp2_with fail
        go_roundw
        case rel => exact ⟨k + 1, _, by omega, by go_num, rfl, by rw [HES.out]; generalize z - rz * u = d; (repeat' split) <;> omega, _, by first | rfl | exact drewN_add6 _ _ _⟩
        case measure => simp [intOf]; omega)
    · obtain rfl : k = zs0.length := by omega
      go_wp2_with fail
      go_ret
      exact ⟨by rw [HGG.out]; rfl, below_drewN HB2.out q⟩
set_option maxHeartbeats 1600000 in
theorem roundError_yes2 (v0 : Value) (zs0 : List Int) (k : Nat) (w : World) (lo0 hi0 : Nat) (hv0 : Lies w lo0 hi0 v0 zs0) (h : tableOk zs0 = true) (k6 : k ≤ 6) : Calls Try.prog 17 #[v0, .int .i64 k, .int .i64 2] w (Gives (.int .i64 (eMax (tenP k) 2 zs0 zs0.length)) w) := by
  have HV0_0 := hidH hv0
  have ⟨ht1, ht2⟩ := tableOk_len _ h
  have hu : IsUnit (tenP k) := by have := unit_of (k : Int) (by omega) (by omega); rwa [Int.toNat_natCast] at this
  have HR := hidH (roundingOf_yes k 2 k6 (by omega) (by omega) w)
  generalize tenP k = u at *
  rw [show rFun u 2 = .func (.func 59) #[.int .i64 u] #[] from rfl] at HR
  have hst := fun W => store_fun W u (.func (.func 59) #[.int .i64 u] #[]) rfl
  have HC := hidH (fun n n1 n2 W' => even_any u n hu n1 n2 W')
  obtain ⟨b0, off0, cap0, rfl, hlc0, hcm0, hlo0, hhi0, hbw0, hcell0⟩ := hv0.addr (by omega)
  have HCELL := hidH hcell0
  have HU := hidH hu
  have ⟨hub1, hub2⟩ := hu.bd
  clear hv0 hcell0 hu
  have HC0 := hidH h
  clear h
  unfold maxLen at hcm0
  go_enter Try.func17, Try.ntmps17
  go_wp2_with fail
  refine HR.out.mono ?_; rintro e w1 ⟨rfl, hb⟩
  have HB1 := hidH hb
  have BB := hidH (bMore hb (.cells #[.int .i64 u, .func (.func 59) #[.int .i64 u] #[]] 57))
  have HG0 := hidH (RndAt.fresh w1 u (.func (.func 59) #[.int .i64 u] #[]))
  have hsz1 := hb.size
  clear hb
  go_wp2_with fail
  refine (tableValid_any _ zs0 _ _ _ (HV0_0.out.below BB.out)).mono ?_; rintro e w2 ⟨rfl, hb⟩
  rw [HC0.out]
  have HB2 := hidH (bThen BB.out hb)
  have HG := hidH (HG0.out.below hb)
  have hsz2 := hb.size
  rw [World.size_alloc] at hsz2
  clear hb HV0_0 HR HB1 BB HG0
  have hc0 := HG.out.cell0
  have hc1 := HG.out.cell1
  go_wp2_with fail
  go_loopw [9, 28] (fun g i wr => ∃ (k : Nat) (gg : Int), k ≤ zs0.length ∧ i = .int .i64 k ∧ g = .int .i64 gg ∧ gg = eMax u 2 zs0 k ∧ ∃ q, wr = w2.drewN q) (fun _ i _ => zs0.length - (intOf i).toNat)
  case atStart => exact ⟨0, 0, Nat.zero_le _, rfl, rfl, rfl, 0, rfl⟩
  case round =>
    obtain ⟨k, gg, hk, rfl, rfl, hgg, q, rfl⟩ := hrel
    have ⟨hg1, hg2, _⟩ := eMax_bd u 2 zs0 HU.out k
    rw [← hgg] at hg1 hg2
    have HGG := hidH hgg
    clear hgg
    by_cases hlt : k < zs0.length
    · obtain ⟨z, hz⟩ := get_lt zs0 k hlt
      have ⟨z1, z2⟩ := tab_bd HC0.out hz
      have hcz := HCELL.out k z hz
      have hcw : w2.cell? ⟨b0, off0 + k, none⟩ = some (.int .i64 z) := by rw [HB2.out.cell (p := ⟨b0, off0 + k, none⟩) hbw0]; exact hcz
      have HES := hidH (eMax_step u 2 zs0 k z hz)
      rw [← HGG.out] at HES
      have HCZ := hidH (HC.out z z1 z2)
      have ⟨p1, p2, p3, p4⟩ := rnd_prod z u 2 HU.out z1 z2
      clear hcz hz
      generalize rndI z u 2 = rz at *
      have hw1 : wrap64 (rz * u) = rz * u := IntWalk.wrap64_in _ (by omega)
      have hw2 : IntKind.i64.wrap (rz * u) = rz * u := IntWalk.i64_in _ (by omega)
      go_wp2_with fail
      go_region_with ((go_at_call 59; (with_reducible refine (HCZ.out _).mono ?_); rintro e wd ⟨rfl, q2, rfl⟩))
      all_goals (
        go_wp2_with fail
        go_roundw
        case rel => exact ⟨k + 1, _, by omega, by go_num, rfl, by rw [HES.out]; generalize z - rz * u = d; (repeat' split) <;> omega, _, by first | rfl | exact drewN_add6 _ _ _⟩
        case measure => simp [intOf]; omega)
    · obtain rfl : k = zs0.length := by omega
      go_wp2_with fail
      go_ret
      exact ⟨by rw [HGG.out]; rfl, below_drewN HB2.out q⟩
theorem roundError_any (v0 : Value) (zs0 : List Int) (d way : Int) (w : World) (lo0 hi0 : Nat) (hv0 : Lies w lo0 hi0 v0 zs0) : Calls Try.prog 17 #[v0, .int .i64 d, .int .i64 way] w (Gives (.int .i64 (rerrA zs0 d way)) w) := by
  unfold rerrA
  cases h : rtabB zs0 d way
  · exact roundError_no v0 zs0 d way w lo0 hi0 hv0 h
  · rw [if_pos rfl]
    unfold rtabB at h
    rw [Bool.and_eq_true] at h
    obtain ⟨k, rfl, k6, w0, w2, hu⟩ := wayOk_parts h.2
    rw [Int.toNat_natCast]
    rcases (show way = 0 ∨ way = 1 ∨ way = 2 by omega) with rfl | rfl | rfl
    · exact roundError_yes0 v0 zs0 k w lo0 hi0 hv0 h.1 k6
    · exact roundError_yes1 v0 zs0 k w lo0 hi0 hv0 h.1 k6
    · exact roundError_yes2 v0 zs0 k w lo0 hi0 hv0 h.1 k6
end Go.Proofs.Ytnndeiiolnefkaa
