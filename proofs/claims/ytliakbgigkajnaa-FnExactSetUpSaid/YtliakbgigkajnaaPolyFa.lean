/-
  ShiftPoly, StepPoly and TurnPoly: the program and the model, at every argument. No conditions but that slices fit in memory.
-/
import Derived.Test.YtliakbgigkajnaaPolyK
namespace Go.Proofs.Ytliakbgigkajnaa
set_option maxRecDepth 4000
open Go.RowKit
/-- What ShiftPoly answers. -/
def shiftA (zs : List Int) (n : Int) : List Int := if polyOk zs && inB 200 n then resL (shiftL zs n zs.length) else []
def shiftB (zs : List Int) (n : Int) : Bool := polyOk zs && inB 200 n && polyOk (shiftL zs n zs.length)
def stepOk (m : Int) : Bool := decide (1 ≤ m ∧ m ≤ 10)
/-- What StepPoly answers. -/
def everyL (zs : List Int) (s : Int) : List Int := leadW zs.length (valsS zs 0 s zs.length)
def stepA (zs : List Int) (m : Int) : List Int := if polyOk zs && stepOk m then resL (everyL zs m) else []
def stepB (zs : List Int) (m : Int) : Bool := polyOk zs && stepOk m && polyOk (everyL zs m)
/-- What TurnPoly answers. -/
def turnA (zs : List Int) : List Int := if polyOk zs then resL (everyL zs (-1)) else []
def turnB (zs : List Int) : Bool := polyOk zs && polyOk (everyL zs (-1))
theorem shiftA_len (zs : List Int) (n : Int) : (shiftA zs n).length ≤ 1048576 := by unfold shiftA; split <;> first | exact resL_len _ | simp
theorem stepA_len (zs : List Int) (n : Int) : (stepA zs n).length ≤ 1048576 := by unfold stepA; split <;> first | exact resL_len _ | simp
theorem turnA_len (zs : List Int) : (turnA zs).length ≤ 1048576 := by unfold turnA; split <;> first | exact resL_len _ | simp
theorem lead_shift (zs : List Int) (hs : Small zs) (n : Int) (h1 : -200 ≤ n) (h2 : n ≤ 200) : leadW zs.length (valsS zs n 1 zs.length) = shiftL zs n zs.length := by
  rw [valsS_one, lead_vals zs hs n zs.length (by omega) (by have := hs.1; omega)]
theorem inB_2 (n : Int) (h : inB 200 n = true) : -200 ≤ n ∧ n ≤ 200 := of_decide_eq_true h
theorem shift_no (v0 : Value) (zs0 : List Int) (n1 : Int) (w : World) (lo0 hi0 : Nat) (hv0 : Lies w lo0 hi0 v0 zs0) (h : (polyOk zs0 && inB 200 n1) = false) : Calls Try.prog 18 #[v0, .int .i64 n1] w (NewRowB [] false w) := by
  have HV0_0 := hidH hv0
  clear hv0
  have HB0 := hidH (Below.refl w.heap.size w)
  cases hc0 : polyOk zs0
  · have HC0 := hidH hc0
    clear h hc0
    go_enter Try.func18, Try.ntmps18
    go_wp2_with fail
    refine (polyValid_any v0 zs0 _ _ _ HV0_0.out).mono ?_; rintro e w1 ⟨rfl, hb⟩
    have HV0_1 := hidH (HV0_0.out.below hb)
    clear HV0_0
    have HB1 := hidH (HB0.out.trans (hb.mono HB0.out.size))
    clear hb HB0
    rw [HC0.out]
    go_wp2_with fail
    go_ret2
    exact ⟨_, rfl, Row.nil _ _ _ _ _ (Nat.zero_le _) (fun _ => rfl), HB1.out⟩
  · rw [hc0, Bool.true_and] at h
    have HC0 := hidH hc0
    clear hc0
    · have HC1 := hidH h
      clear h
      go_enter Try.func18, Try.ntmps18
      go_wp2_with fail
      refine (polyValid_any v0 zs0 _ _ _ HV0_0.out).mono ?_; rintro e w1 ⟨rfl, hb⟩
      have HV0_1 := hidH (HV0_0.out.below hb)
      clear HV0_0
      have HB1 := hidH (HB0.out.trans (hb.mono HB0.out.size))
      clear hb HB0
      rw [HC0.out]
      go_wp2_with fail
      refine (within_any n1 200 (by omega) (by omega) _).mono ?_; rintro e w_ ⟨rfl, rfl⟩
      rw [HC1.out]
      go_wp2_with fail
      go_ret2
      exact ⟨_, rfl, Row.nil _ _ _ _ _ (Nat.zero_le _) (fun _ => rfl), HB1.out⟩
set_option maxHeartbeats 800000 in
theorem shift_yes (v0 : Value) (zs0 : List Int) (n1 : Int) (w : World) (lo0 hi0 : Nat) (hv0 : Lies w lo0 hi0 v0 zs0) (hc0 : (polyOk zs0) = true) (hc1 : (inB 200 n1) = true) : Calls Try.prog 18 #[v0, .int .i64 n1] w (NewRowB (resL (shiftL zs0 n1 zs0.length)) (polyOk (shiftL zs0 n1 zs0.length)) w) := by
  have HV0_0 := hidH hv0
  clear hv0
  have HB0 := hidH (Below.refl w.heap.size w)
  have HC0 := hidH hc0
  have HC1 := hidH hc1
  have ⟨h1, hs⟩ := polyOk_small _ HC0.out
  have h7 := hs.1
  have HS := hidH hs
  clear hs
  have ⟨ha, hb⟩ := inB_2 _ HC1.out
  clear hc0 hc1
  go_enter Try.func18, Try.ntmps18
  go_wp2_with fail
  refine (polyValid_any v0 zs0 _ _ _ HV0_0.out).mono ?_; rintro e w1 ⟨rfl, hb⟩
  have HV0_1 := hidH (HV0_0.out.below hb)
  clear HV0_0
  have HB1 := hidH (HB0.out.trans (hb.mono HB0.out.size))
  clear hb HB0
  rw [HC0.out]
  go_wp2_with fail
  refine (within_any n1 200 (by omega) (by omega) _).mono ?_; rintro e w_ ⟨rfl, rfl⟩
  rw [HC1.out]
  go_wp2_with fail
  refine (diffsAt_any v0 zs0 n1 _ _ _ HV0_1.out (by omega) HS.out (by omega) (by omega)).mono ?_; rintro e wa ⟨va, rfl, hr, hb⟩
  have HR := hidH hr
  have HBa := hidH (HB1.out.trans (hb.mono HB1.out.size))
  have hsz := HB1.out.size
  clear hr hb
  go_wp2_with fail
  refine (ifPoly_any va _ _ _ HR.out).mono ?_; rintro e wb ⟨vb, rfl, hr, hb⟩
  have HR2 := hidH hr
  have HBb := hidH (HBa.out.trans (hb.mono HBa.out.size))
  clear hr hb
  generalize polyOk (shiftL zs0 n1 zs0.length) = r at *
  go_wp2_with fail
  go_ret2
  exact ⟨_, rfl, HR2.out.mono hsz (Nat.le_refl _), HBb.out⟩
theorem shift_any (v0 : Value) (zs0 : List Int) (n1 : Int) (w : World) (lo0 hi0 : Nat) (hv0 : Lies w lo0 hi0 v0 zs0) : Calls Try.prog 18 #[v0, .int .i64 n1] w (NewRowB (shiftA zs0 n1) (shiftB zs0 n1) w) := by
  unfold shiftA shiftB
  cases h : (polyOk zs0 && inB 200 n1)
  · exact shift_no v0 zs0 n1 w lo0 hi0 hv0 h
  · have h' := h
    try simp only [Bool.and_eq_true] at h'
    exact shift_yes v0 zs0 n1 w lo0 hi0 hv0 h'.1 h'.2
theorem sShift_no (v0 : Value) (zs0 : List Int) (n1 : Int) (w : World) (lo0 hi0 : Nat) (hv0 : Lies w lo0 hi0 v0 zs0) (h : (polyOk zs0 && inB 200 n1) = false) : Calls Try.prog 15 #[v0, .int .i64 n1] w (NewRowB [] false w) := by
  have HV0_0 := hidH hv0
  clear hv0
  have HB0 := hidH (Below.refl w.heap.size w)
  cases hc0 : polyOk zs0
  · have HC0 := hidH hc0
    clear h hc0
    go_enter Try.func15, Try.ntmps15
    go_wp2_with fail
    refine (sPolyValid_gives v0 zs0 _ _ _ HV0_0.out).mono ?_; rintro e w1 ⟨rfl, hb⟩
    have HV0_1 := hidH (HV0_0.out.below hb)
    clear HV0_0
    have HB1 := hidH (HB0.out.trans (hb.mono HB0.out.size))
    clear hb HB0
    rw [HC0.out]
    go_wp2_with fail
    go_ret2
    exact ⟨_, rfl, Row.nil _ _ _ _ _ (Nat.zero_le _) (fun _ => rfl), HB1.out.trans (((Below.refl _ _).alloc (Nat.le_refl _) _).mono HB1.out.size)⟩
  · rw [hc0, Bool.true_and] at h
    have HC0 := hidH hc0
    clear hc0
    · have HC1 := hidH h
      clear h
      go_enter Try.func15, Try.ntmps15
      go_wp2_with fail
      refine (sPolyValid_gives v0 zs0 _ _ _ HV0_0.out).mono ?_; rintro e w1 ⟨rfl, hb⟩
      have HV0_1 := hidH (HV0_0.out.below hb)
      clear HV0_0
      have HB1 := hidH (HB0.out.trans (hb.mono HB0.out.size))
      clear hb HB0
      rw [HC0.out]
      go_wp2_with fail
      refine (sArg_any n1 (inB 200 n1) rfl _).mono ?_; rintro e w_ ⟨rfl, rfl⟩
      rw [HC1.out]
      go_wp2_with fail
      go_ret2
      exact ⟨_, rfl, Row.nil _ _ _ _ _ (Nat.zero_le _) (fun _ => rfl), HB1.out.trans (((Below.refl _ _).alloc (Nat.le_refl _) _).mono HB1.out.size)⟩
set_option maxHeartbeats 800000 in
theorem sShift_yes (v0 : Value) (zs0 : List Int) (n1 : Int) (w : World) (lo0 hi0 : Nat) (hv0 : Lies w lo0 hi0 v0 zs0) (hc0 : (polyOk zs0) = true) (hc1 : (inB 200 n1) = true) : Calls Try.prog 15 #[v0, .int .i64 n1] w (NewRowB (resL (shiftL zs0 n1 zs0.length)) (polyOk (shiftL zs0 n1 zs0.length)) w) := by
  have HV0_0 := hidH hv0
  clear hv0
  have HB0 := hidH (Below.refl w.heap.size w)
  have HC0 := hidH hc0
  have HC1 := hidH hc1
  have ⟨h1, hs⟩ := polyOk_small _ HC0.out
  have h7 := hs.1
  have HS := hidH hs
  clear hs
  have ⟨ha, hb⟩ := inB_2 _ HC1.out
  clear hc0 hc1
  go_enter Try.func15, Try.ntmps15
  go_wp2_with fail
  refine (sPolyValid_gives v0 zs0 _ _ _ HV0_0.out).mono ?_; rintro e w1 ⟨rfl, hb⟩
  have HV0_1 := hidH (HV0_0.out.below hb)
  clear HV0_0
  have HB1 := hidH (HB0.out.trans (hb.mono HB0.out.size))
  clear hb HB0
  rw [HC0.out]
  go_wp2_with fail
  refine (sArg_any n1 (inB 200 n1) rfl _).mono ?_; rintro e w_ ⟨rfl, rfl⟩
  rw [HC1.out]
  obtain ⟨a0, cap0, rfl, _⟩ := HV0_1.out
  go_wp2_with fail
  refine (sValues_any _ zs0 n1 1 zs0.length _ _ _ HV0_1.out HS.out (by omega) ⟨ha, hb⟩ (by omega)).mono ?_; rintro e wa ⟨va, rfl, hr, hb⟩
  have HR := hidH hr
  have HBa := hidH (HB1.out.trans (hb.mono HB1.out.size))
  have hsz := HB1.out.size
  have hsz2 := hb.size
  clear hr hb
  go_wp2_with fail
  refine (sResult_any va _ _ _ _ HR.out.lies (by rw [valsS_length]; omega)).mono ?_; rintro e wb ⟨vb, rfl, hr, hb⟩
  have HR2 := hidH hr
  have HBb := hidH (HBa.out.trans (hb.mono HBa.out.size))
  clear hr hb
  rw [valsS_length, lead_shift zs0 HS.out n1 ha hb] at HR2
  rw [valsS_length, lead_shift zs0 HS.out n1 ha hb]
  generalize polyOk (shiftL zs0 n1 zs0.length) = r at *
  go_wp2_with fail
  go_ret2
  exact ⟨_, rfl, HR2.out.mono (by omega) (Nat.le_refl _), HBb.out⟩
theorem sShift_any (v0 : Value) (zs0 : List Int) (n1 : Int) (w : World) (lo0 hi0 : Nat) (hv0 : Lies w lo0 hi0 v0 zs0) : Calls Try.prog 15 #[v0, .int .i64 n1] w (NewRowB (shiftA zs0 n1) (shiftB zs0 n1) w) := by
  unfold shiftA shiftB
  cases h : (polyOk zs0 && inB 200 n1)
  · exact sShift_no v0 zs0 n1 w lo0 hi0 hv0 h
  · have h' := h
    try simp only [Bool.and_eq_true] at h'
    exact sShift_yes v0 zs0 n1 w lo0 hi0 hv0 h'.1 h'.2
end Go.Proofs.Ytliakbgigkajnaa
