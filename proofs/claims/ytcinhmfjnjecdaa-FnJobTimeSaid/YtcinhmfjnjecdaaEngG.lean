/-
  CapacityOf: the program and the model. No conditions but that slices fit in memory.
-/
import Derived.Test.YtcinhmfjnjecdaaPolyFe
import Derived.Test.YtcinhmfjnjecdaaNegate
import Derived.Test.YtcinhmfjnjecdaaSpecA
namespace Go.Proofs.Ytcinhmfjnjecdaa
set_option maxRecDepth 4000
set_option linter.unusedVariables false
open Go.RowKit
/-- How many numbers at the beginning have a column of a width. -/
def capTo (wd : Nat) : List Int → Nat
  | [] => 0
  | z :: r => if fits z wd then capTo wd r + 1 else 0
theorem capTo_stop (wd : Nat) : ∀ (zs : List Int) (k : Nat) (z : Int), (∀ j y, j < k → zs[j]? = some y → fits y wd = true) → zs[k]? = some z → fits z wd = false → capTo wd zs = k
  | [], k, z, _, h, _ => by simp at h
  | y :: r, 0, z, _, h, hz => by
    simp at h
    subst h
    simp [capTo, hz]
  | y :: r, k + 1, z, ha, h, hz => by
    have h0 := ha 0 y (by omega) rfl
    have ih := capTo_stop wd r k z (fun j x hj hx => ha (j + 1) x (by omega) (by simpa using hx)) (by simpa using h) hz
    simp [capTo, h0, ih]
theorem capTo_all (wd : Nat) : ∀ (zs : List Int), (∀ j y, j < zs.length → zs[j]? = some y → fits y wd = true) → capTo wd zs = zs.length
  | [], _ => rfl
  | y :: r, ha => by
    have h0 := ha 0 y (by simp) rfl
    have ih := capTo_all wd r (fun j x hj hx => ha (j + 1) x (by simp; omega) (by simpa using hx))
    simp [capTo, h0, ih]
/-- What CapacityOf answers. -/
def capA (zs : List Int) (n wi c : Int) : Int := if valuesB zs n c && decide (1 ≤ wi ∧ wi ≤ 12) then capTo wi.toNat (valuesA zs n c) else -1
theorem capA_no (zs : List Int) (n wi c : Int) (h : (valuesB zs n c && decide (1 ≤ wi ∧ wi ≤ 12)) = false) : capA zs n wi c = -1 := by rw [capA, h]; rfl
theorem capA_yes (zs : List Int) (n wi c : Int) (h : (valuesB zs n c && decide (1 ≤ wi ∧ wi ≤ 12)) = true) : capA zs n wi c = capTo wi.toNat (valuesA zs n c) := by rw [capA, h]; rfl
theorem wv_any (n : Int) (r : Bool) (h : decide (1 ≤ n ∧ n ≤ 12) = r) (w : World) : Calls Try.prog 75 #[.int .i64 n] w (Gives (.bool r) w) := by
  subst h
  by_cases h1 : n < 1
  · rw [decide_eq_false (by omega)]
    exact (wv_low n h1 w).mono fun e w' ⟨he, hw⟩ => ⟨he, hw ▸ Below.refl _ _⟩
  · by_cases h2 : 12 < n
    · rw [decide_eq_false (by omega)]
      exact (wv_high n h2 w).mono fun e w' ⟨he, hw⟩ => ⟨he, hw ▸ Below.refl _ _⟩
    · rw [decide_eq_true (by omega)]
      exact (wv_yes n (by omega) (by omega) w).mono fun e w' ⟨he, hw⟩ => ⟨he, hw ▸ Below.refl _ _⟩
theorem capacity_any (v : Value) (zs : List Int) (n wi c : Int) (w : World) (lo hi : Nat) (hv : Lies w lo hi v zs) : Calls Try.prog 50 #[v, .int .i64 n, .int .i64 wi, .int .i64 c] w (Gives (.int .i64 (capA zs n wi c)) w) := by
  have HV := hidH (values_any v zs n c w lo hi hv)
  have HVL := hidH (valuesA_len zs n c)
  have HN := hidH (capA_no zs n wi c)
  have HY := hidH (capA_yes zs n wi c)
  clear hv
  generalize valuesA zs n c = vs at *
  generalize valuesB zs n c = vb at *
  generalize capA zs n wi c = ca at *
  cases vb
  · obtain rfl : ca = -1 := HN.out rfl
    go_enter Try.func50, Try.ntmps50
    go_wp2_with fail
    refine HV.out.mono ?_; rintro e w1 ⟨u, rfl, hr, hb⟩
    have HB := hidH hb
    clear hr hb
    go_wp2
    go_ret
    exact ⟨rfl, HB.out⟩
  · cases hwd : decide (1 ≤ wi ∧ wi ≤ 12)
    · obtain rfl : ca = -1 := HN.out (by rw [hwd]; rfl)
      have HW := hidH (wv_any wi false hwd)
      clear hwd
      go_enter Try.func50, Try.ntmps50
      go_wp2_with fail
      refine HV.out.mono ?_; rintro e w1 ⟨u, rfl, hr, hb⟩
      have HB := hidH hb
      clear hr hb
      go_wp2_with fail
      refine (HW.out _).mono ?_; rintro e w2 ⟨rfl, hb⟩
      have HB2 := hidH (HB.out.trans (hb.mono HB.out.size))
      clear hb
      go_wp2
      go_ret
      exact ⟨rfl, HB2.out⟩
    · have HCA := hidH (HY.out (by rw [hwd]; rfl))
      have HW := hidH (wv_any wi true hwd)
      obtain ⟨w1', w2'⟩ := of_decide_eq_true hwd
      obtain ⟨wd, rfl⟩ := Int.eq_ofNat_of_zero_le (show 0 ≤ wi by omega)
      rw [Int.toNat_natCast] at HCA
      have HC1 := hidH (fun z (hz : fits z wd = true) W => col_yes z wd (by omega) (by omega) ((fits_iff z wd).1 hz).1 ((fits_iff z wd).1 hz).2 W)
      have HC0 := hidH (fun z (hz : fits z wd = false) W => col_no z wd (by omega) (by omega) hz W)
      clear hwd
      go_enter Try.func50, Try.ntmps50
      go_wp2_with fail
      refine HV.out.mono ?_; rintro e w1 ⟨u, rfl, hr, hb⟩
      have HB := hidH hb
      have HR := hidH hr
      obtain ⟨a, cap, rfl, hlc, hcm, hnil, hcell⟩ := hr.lies
      have HCL := hidH hcell
      have hvl := HVL.out
      unfold maxLen at hcm
      clear hb hcell hnil hr
      go_wp2_with fail
      refine (HW.out _).mono ?_; rintro e w2 ⟨rfl, hb⟩
      have HB2 := hidH (HB.out.trans (hb.mono HB.out.size))
      have HBL := hidH hb
      clear hb
      go_wp2
      go_loopw [30] (fun i wr => ∃ k : Nat, k ≤ vs.length ∧ i = .int .i64 k ∧ (∀ j y, j < k → vs[j]? = some y → fits y wd = true) ∧ Below w2.heap.size w2 wr) (fun i _ => vs.length - (intOf i).toNat)
      case atStart => exact ⟨0, Nat.zero_le _, rfl, fun j _ hj => absurd hj (Nat.not_lt_zero _), Below.refl _ _⟩
      case round =>
        obtain ⟨k, hk, rfl, hall, hb⟩ := hrel
        have HA := hidH hall
        have Hb := hidH (HB2.out.trans (hb.mono HB2.out.size))
        have Hbb := hidH (HBL.out.trans (hb.mono HBL.out.size))
        have Hb2 := hidH hb
        clear hall hb
        by_cases hlt : k < vs.length
        · obtain ⟨z, hz⟩ := get_lt vs k hlt
          obtain ⟨b, off, rfl, _, _, hc⟩ := HCL.out k z hz
          have hcw : wr.cell? ⟨b, off + k, none⟩ = some (.int .i64 z) := by rw [Hbb.out.cell (p := ⟨b, off + k, none⟩) (cell_blk _ _ _ hc)]; exact hc
          have HZ := hidH hz
          clear hz hc
          cases hf : fits z wd
          · have HS := hidH (capTo_stop wd vs k z HA.out HZ.out hf)
            have HC := hidH (HC0.out z hf)
            clear hf
            go_wp2_with fail
            refine (HC.out _).mono ?_; rintro e w3 ⟨rfl, rfl⟩
            go_wp2
            go_ret
            rw [HCA.out, HS.out]
            exact ⟨rfl, Hb.out⟩
          · have HC := hidH (HC1.out z hf)
            have HX : Hid (∀ j y, j < k + 1 → vs[j]? = some y → fits y wd = true) := hidH (fun j y hj hy => by
              by_cases e : j = k
              · subst e
                rw [HZ.out] at hy
                injection hy with hy
                rw [← hy]; exact hf
              · exact HA.out j y (by omega) hy)
            clear hf
            go_wp2_with fail
            refine (HC.out _).mono ?_; rintro e w3 ⟨rfl, hb⟩
            have Hb3 := hidH (Hb2.out.trans (hb.mono Hb2.out.size))
            clear hb
            go_wp2
            go_roundw
            case rel => exact ⟨k + 1, by omega, by go_num, HX.out, Hb3.out⟩
            case measure => simp [intOf] <;> omega
        · obtain rfl : k = vs.length := by omega
          have HS := hidH (capTo_all wd vs HA.out)
          go_wp2
          go_ret
          rw [HCA.out, HS.out]
          exact ⟨rfl, Hb.out⟩
theorem sCapacity_any (v : Value) (zs : List Int) (n wi c : Int) (w : World) (lo hi : Nat) (hv : Lies w lo hi v zs) : Calls Try.prog 65 #[v, .int .i64 n, .int .i64 wi, .int .i64 c] w (Gives (.int .i64 (capA zs n wi c)) w) := by
  have HV := hidH (sValuesOf_any v zs n c w lo hi hv)
  have HVL := hidH (valuesA_len zs n c)
  have HN := hidH (capA_no zs n wi c)
  have HY := hidH (capA_yes zs n wi c)
  clear hv
  generalize valuesA zs n c = vs at *
  generalize valuesB zs n c = vb at *
  generalize capA zs n wi c = ca at *
  cases vb
  · obtain rfl : ca = -1 := HN.out rfl
    go_enter Try.func65, Try.ntmps65
    go_wp2_with fail
    refine HV.out.mono ?_; rintro e w1 ⟨u, rfl, hr, hb⟩
    have HB := hidH hb
    clear hr hb
    go_wp2
    go_ret
    exact ⟨rfl, HB.out⟩
  · cases hwd : decide (1 ≤ wi ∧ wi ≤ 12)
    · obtain rfl : ca = -1 := HN.out (by rw [hwd]; rfl)
      have HW := hidH (sWidth_any wi false hwd)
      clear hwd
      go_enter Try.func65, Try.ntmps65
      go_wp2_with fail
      refine HV.out.mono ?_; rintro e w1 ⟨u, rfl, hr, hb⟩
      have HB := hidH hb
      clear hr hb
      go_wp2_with fail
      refine (HW.out _).mono ?_; rintro e w2 ⟨rfl, rfl⟩
      go_wp2
      go_ret
      exact ⟨rfl, HB.out⟩
    · have HCA := hidH (HY.out (by rw [hwd]; rfl))
      have HW := hidH (sWidth_any wi true hwd)
      obtain ⟨w1', w2'⟩ := of_decide_eq_true hwd
      obtain ⟨wd, rfl⟩ := Int.eq_ofNat_of_zero_le (show 0 ≤ wi by omega)
      rw [Int.toNat_natCast] at HCA
      have HC := hidH (fun z r (hz : fits z wd = r) W => sFits_any z wd r hz (by omega) (by omega) W)
      clear hwd
      go_enter Try.func65, Try.ntmps65
      go_wp2_with fail
      refine HV.out.mono ?_; rintro e w1 ⟨u, rfl, hr, hb⟩
      have HB := hidH hb
      have HR := hidH hr
      obtain ⟨a, cap, rfl, hlc, hcm, hnil, hcell⟩ := hr.lies
      have HCL := hidH hcell
      have hvl := HVL.out
      unfold maxLen at hcm
      clear hb hcell hnil hr
      go_wp2_with fail
      refine (HW.out _).mono ?_; rintro e w2 ⟨rfl, rfl⟩
      go_wp2
      go_loopw [11] (fun i wr => ∃ k : Nat, k ≤ vs.length ∧ i = .int .i64 k ∧ (∀ j y, j < k → vs[j]? = some y → fits y wd = true) ∧ w1 = wr) (fun i _ => vs.length - (intOf i).toNat)
      case atStart => exact ⟨0, Nat.zero_le _, rfl, fun j _ hj => absurd hj (Nat.not_lt_zero _), rfl⟩
      case round =>
        obtain ⟨k, hk, rfl, hall, rfl⟩ := hrel
        have HA := hidH hall
        clear hall
        by_cases hlt : k < vs.length
        · obtain ⟨z, hz⟩ := get_lt vs k hlt
          obtain ⟨b, off, rfl, _, _, hc⟩ := HCL.out k z hz
          have HZ := hidH hz
          clear hz
          cases hf : fits z wd
          · have HS := hidH (capTo_stop wd vs k z HA.out HZ.out hf)
            have HCC := hidH (HC.out z false hf)
            clear hf
            go_wp2_with fail
            refine (HCC.out _).mono ?_; rintro e w3 ⟨rfl, rfl⟩
            go_wp2
            go_ret
            rw [HCA.out, HS.out]
            exact ⟨rfl, HB.out⟩
          · have HCC := hidH (HC.out z true hf)
            have HX : Hid (∀ j y, j < k + 1 → vs[j]? = some y → fits y wd = true) := hidH (fun j y hj hy => by
              by_cases e : j = k
              · subst e
                rw [HZ.out] at hy
                injection hy with hy
                rw [← hy]; exact hf
              · exact HA.out j y (by omega) hy)
            clear hf
            go_wp2_with fail
            refine (HCC.out _).mono ?_; rintro e w3 ⟨rfl, rfl⟩
            go_wp2
            go_roundw
            case rel => exact ⟨k + 1, by omega, by go_num, HX.out, by first | rfl | trivial⟩
            case measure => simp [intOf] <;> omega
        · obtain rfl : k = vs.length := by omega
          have HS := hidH (capTo_all wd vs HA.out)
          go_wp2
          go_ret
          rw [HCA.out, HS.out]
          exact ⟨rfl, HB.out⟩
end Go.Proofs.Ytcinhmfjnjecdaa
