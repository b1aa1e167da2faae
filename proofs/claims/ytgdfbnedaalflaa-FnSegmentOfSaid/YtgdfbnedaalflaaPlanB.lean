/-
  LongestRun: the program and the model, at every argument. No conditions but that slices fit in memory.
-/
import Derived.Test.YtgdfbnedaalflaaPlanA
namespace Go.Proofs.Ytgdfbnedaalflaa
set_option maxRecDepth 4000
open Go.RowKit
/-- A place in a table, its end among them. -/
def fromOk (zs : List Int) (n : Int) : Bool := decide (0 ≤ n ∧ n ≤ (zs.length : Int))
/-- What LongestRun answers. -/
def runAns (zs : List Int) (n d : Int) : Int := if smallOk zs && (degOk d && fromOk zs n) then (longN (d.toNat + 1) (zs.drop n.toNat) : Nat) else -1
theorem lrun_no (v0 : Value) (zs0 : List Int) (n1 : Int) (n2 : Int) (w : World) (lo0 hi0 : Nat) (hv0 : Lies w lo0 hi0 v0 zs0) (h : (((smallOk zs0) && ((degOk n2) && (fromOk zs0 n1)))) = false) : Calls Try.prog 8 #[v0, .int .i64 n1, .int .i64 n2] w (Gives (.int .i64 (-1)) w) := by
  have HV0_0 := hidH hv0
  obtain ⟨a0, cap0, rfl, hlc0, hcm0, hnil0, hcell0⟩ := hv0
  clear hnil0 hcell0
  unfold maxLen at hcm0
  have HB0 := hidH (Below.refl w.heap.size w)
  cases hc0 : smallOk zs0
  · have HC0 := hidH hc0
    clear h hc0
    go_enter Try.func8, Try.ntmps8
    go_wp2_with fail
    refine (small_any _ zs0 _ _ _ HV0_0.out).mono ?_; rintro e w1 ⟨rfl, hb⟩
    have HV0_1 := hidH (HV0_0.out.below hb)
    clear HV0_0
    have HB1 := hidH (HB0.out.trans (hb.mono HB0.out.size))
    clear hb HB0
    rw [HC0.out]
    go_wp2_with fail
    go_ret
    exact ⟨rfl, HB1.out⟩
  · rw [hc0, Bool.true_and] at h
    have HC0 := hidH hc0
    clear hc0
    have ⟨hs1, hs2, hs3⟩ := (small_iff zs0).1 HC0.out
    clear hs3
    cases hc1 : degOk n2
    · have HC1 := hidH hc1
      clear h hc1
      go_enter Try.func8, Try.ntmps8
      go_wp2_with fail
      refine (small_any _ zs0 _ _ _ HV0_0.out).mono ?_; rintro e w1 ⟨rfl, hb⟩
      have HV0_1 := hidH (HV0_0.out.below hb)
      clear HV0_0
      have HB1 := hidH (HB0.out.trans (hb.mono HB0.out.size))
      clear hb HB0
      rw [HC0.out]
      go_wp2_with fail
      refine (degValid_any n2 _).mono ?_; rintro e w_ ⟨rfl, rfl⟩
      rw [HC1.out]
      go_wp2_with fail
      go_ret
      exact ⟨rfl, HB1.out⟩
    · rw [hc1, Bool.true_and] at h
      have HC1 := hidH hc1
      clear hc1
      have ⟨hd1, hd2⟩ := of_decide_eq_true HC1.out
      · have HC2 := hidH h
        clear h
        have hcc := of_decide_eq_false HC2.out
        rcases (show (n1 < 0) ∨ (0 ≤ n1 ∧ (zs0.length : Int) < n1) by omega) with hcf | ⟨ht2_0, hcf⟩
        · clear hcc
          go_enter Try.func8, Try.ntmps8
          go_wp2_with fail
          refine (small_any _ zs0 _ _ _ HV0_0.out).mono ?_; rintro e w1 ⟨rfl, hb⟩
          have HV0_1 := hidH (HV0_0.out.below hb)
          clear HV0_0
          have HB1 := hidH (HB0.out.trans (hb.mono HB0.out.size))
          clear hb HB0
          rw [HC0.out]
          go_wp2_with fail
          refine (degValid_any n2 _).mono ?_; rintro e w_ ⟨rfl, rfl⟩
          rw [HC1.out]
          go_wp2_with fail
          go_ret
          exact ⟨rfl, HB1.out⟩
        · clear hcc
          go_enter Try.func8, Try.ntmps8
          go_wp2_with fail
          refine (small_any _ zs0 _ _ _ HV0_0.out).mono ?_; rintro e w1 ⟨rfl, hb⟩
          have HV0_1 := hidH (HV0_0.out.below hb)
          clear HV0_0
          have HB1 := hidH (HB0.out.trans (hb.mono HB0.out.size))
          clear hb HB0
          rw [HC0.out]
          go_wp2_with fail
          refine (degValid_any n2 _).mono ?_; rintro e w_ ⟨rfl, rfl⟩
          rw [HC1.out]
          go_wp2_with fail
          go_ret
          exact ⟨rfl, HB1.out⟩
set_option maxHeartbeats 800000 in
theorem lrun_yes (v0 : Value) (zs0 : List Int) (n1 : Int) (n2 : Int) (w : World) (lo0 hi0 : Nat) (hv0 : Lies w lo0 hi0 v0 zs0) (hc0 : (smallOk zs0) = true) (hc1 : (degOk n2) = true) (hc2 : (fromOk zs0 n1) = true) : Calls Try.prog 8 #[v0, .int .i64 n1, .int .i64 n2] w (Gives (.int .i64 (longN (n2.toNat + 1) (zs0.drop n1.toNat) : Nat)) w) := by
  have HV0_0 := hidH hv0
  clear hv0
  have HB0 := hidH (Below.refl w.heap.size w)
  have HC0 := hidH hc0
  have HC1 := hidH hc1
  have HC2 := hidH hc2
  clear hc0 hc1 hc2
  have ⟨hs1, hs2, hs3⟩ := (small_iff zs0).1 HC0.out
  clear hs3
  have ⟨hd1, hd2⟩ := of_decide_eq_true HC1.out
  have ⟨ht2_0, ht2_1⟩ := of_decide_eq_true HC2.out
  obtain ⟨b0, off0, cap0, rfl, hlc0, hcm0, _, _, _, hcx⟩ := HV0_0.out.addr (by omega)
  clear hcx
  unfold maxLen at hcm0
  obtain ⟨k, rfl⟩ : ∃ k : Nat, n1 = (k : Int) := ⟨n1.toNat, by omega⟩
  obtain ⟨d, rfl⟩ : ∃ d : Nat, n2 = (d : Int) := ⟨n2.toNat, by omega⟩
  rw [Int.toNat_natCast, Int.toNat_natCast]
  obtain ⟨ys, hys⟩ : ∃ ys, ys = zs0.drop k := ⟨_, rfl⟩
  rw [← hys]
  have HYS := hidH hys
  clear hys
  clear hd1 hs1
  go_enter Try.func8, Try.ntmps8
  go_wp2_with fail
  refine (small_any _ zs0 _ _ _ HV0_0.out).mono ?_; rintro e w1 ⟨rfl, hb⟩
  have HV0_1 := hidH (HV0_0.out.below hb)
  clear HV0_0
  have HB1 := hidH (HB0.out.trans (hb.mono HB0.out.size))
  clear hb HB0
  rw [HC0.out]
  go_wp2_with fail
  refine (degValid_any (d : Int) _).mono ?_; rintro e w_ ⟨rfl, rfl⟩
  rw [HC1.out]
  by_cases hck : cap0 = k
  · have hkz : zs0.length = k := by omega
    obtain rfl : ys = [] := by rw [HYS.out]; exact List.drop_eq_nil_of_le (by omega)
    have HR := hidH (runLen_any (.slice (some ⟨b0, off0, none⟩) 0 0) [] d w1 0 w1.heap.size (Row.nil _ _ _ _ _ (Nat.zero_le _) (fun _ => rfl)).lies (by omega) (by simp))
    generalize longN (d + 1) [] = L at *
    subst hck
    have hln : (zs0.length : Int) - cap0 = ((0 : Nat) : Int) := by omega
    go_wp2_with fail
    refine HR.out.mono ?_; rintro e wz ⟨rfl, hb⟩
    have HBZ := hidH (HB1.out.trans (hb.mono HB1.out.size))
    clear hb
    go_wp2_with fail
    go_ret
    exact ⟨rfl, HBZ.out⟩
  · have HR := hidH (runLen_any _ (zs0.drop k) d w1 _ _ ((HV0_1.out).dropped k (zs0.length - k) (cap0 - k) (by omega) rfl rfl) (by omega) (by rw [List.length_drop]; omega))
    rw [← HYS.out] at HR
    generalize longN (d + 1) ys = L at *
    have hln : (zs0.length : Int) - k = ((zs0.length - k : Nat) : Int) := by omega
    have hcn : (cap0 : Int) - k = ((cap0 - k : Nat) : Int) := by omega
    go_wp2_with fail
    refine HR.out.mono ?_; rintro e wz ⟨rfl, hb⟩
    have HBZ := hidH (HB1.out.trans (hb.mono HB1.out.size))
    clear hb
    go_wp2_with fail
    go_ret
    exact ⟨rfl, HBZ.out⟩
theorem lrun_any (v0 : Value) (zs0 : List Int) (n1 n2 : Int) (w : World) (lo0 hi0 : Nat) (hv0 : Lies w lo0 hi0 v0 zs0) : Calls Try.prog 8 #[v0, .int .i64 n1, .int .i64 n2] w (Gives (.int .i64 (runAns zs0 n1 n2)) w) := by
  unfold runAns
  cases h : (smallOk zs0 && (degOk n2 && fromOk zs0 n1))
  · exact lrun_no v0 zs0 n1 n2 w lo0 hi0 hv0 h
  · have h' := h
    simp only [Bool.and_eq_true] at h'
    obtain ⟨h0, h1, h2⟩ := h'
    exact lrun_yes v0 zs0 n1 n2 w lo0 hi0 hv0 h0 h1 h2
theorem sLrun_no (v0 : Value) (zs0 : List Int) (n1 : Int) (n2 : Int) (w : World) (lo0 hi0 : Nat) (hv0 : Lies w lo0 hi0 v0 zs0) (h : (((smallOk zs0) && ((degOk n2) && (fromOk zs0 n1)))) = false) : Calls Try.prog 9 #[v0, .int .i64 n1, .int .i64 n2] w (Gives (.int .i64 (-1)) w) := by
  have HV0_0 := hidH hv0
  obtain ⟨a0, cap0, rfl, hlc0, hcm0, hnil0, hcell0⟩ := hv0
  clear hnil0 hcell0
  unfold maxLen at hcm0
  have HB0 := hidH (Below.refl w.heap.size w)
  cases hc0 : smallOk zs0
  · have HC0 := hidH hc0
    clear h hc0
    go_enter Try.func9, Try.ntmps9
    go_wp2_with fail
    refine (sSmall_any _ zs0 _ _ _ HV0_0.out).mono ?_; rintro e w1 ⟨rfl, hb⟩
    have HV0_1 := hidH (HV0_0.out.below hb)
    clear HV0_0
    have HB1 := hidH (HB0.out.trans (hb.mono HB0.out.size))
    clear hb HB0
    rw [HC0.out]
    go_wp2_with fail
    go_ret
    exact ⟨rfl, HB1.out⟩
  · rw [hc0, Bool.true_and] at h
    have HC0 := hidH hc0
    clear hc0
    have ⟨hs1, hs2, hs3⟩ := (small_iff zs0).1 HC0.out
    clear hs3
    cases hc1 : degOk n2
    · have HC1 := hidH hc1
      clear h hc1
      go_enter Try.func9, Try.ntmps9
      go_wp2_with fail
      refine (sSmall_any _ zs0 _ _ _ HV0_0.out).mono ?_; rintro e w1 ⟨rfl, hb⟩
      have HV0_1 := hidH (HV0_0.out.below hb)
      clear HV0_0
      have HB1 := hidH (HB0.out.trans (hb.mono HB0.out.size))
      clear hb HB0
      rw [HC0.out]
      go_wp2_with fail
      refine (sDeg4_any n2 _).mono ?_; rintro e w_ ⟨rfl, rfl⟩
      rw [HC1.out]
      go_wp2_with fail
      go_ret
      exact ⟨rfl, HB1.out⟩
    · rw [hc1, Bool.true_and] at h
      have HC1 := hidH hc1
      clear hc1
      have ⟨hd1, hd2⟩ := of_decide_eq_true HC1.out
      · have HC2 := hidH h
        clear h
        go_enter Try.func9, Try.ntmps9
        go_wp2_with fail
        refine (sSmall_any _ zs0 _ _ _ HV0_0.out).mono ?_; rintro e w1 ⟨rfl, hb⟩
        have HV0_1 := hidH (HV0_0.out.below hb)
        clear HV0_0
        have HB1 := hidH (HB0.out.trans (hb.mono HB0.out.size))
        clear hb HB0
        rw [HC0.out]
        go_wp2_with fail
        refine (sDeg4_any n2 _).mono ?_; rintro e w_ ⟨rfl, rfl⟩
        rw [HC1.out]
        go_wp2_with fail
        refine (sIn_any (n1) (0) ((zs0.length : Int)) (fromOk zs0 n1) rfl _).mono ?_; rintro e w_ ⟨rfl, rfl⟩
        rw [HC2.out]
        go_wp2_with fail
        go_ret
        exact ⟨rfl, HB1.out⟩
set_option maxHeartbeats 800000 in
theorem sLrun_yes (v0 : Value) (zs0 : List Int) (n1 : Int) (n2 : Int) (w : World) (lo0 hi0 : Nat) (hv0 : Lies w lo0 hi0 v0 zs0) (hc0 : (smallOk zs0) = true) (hc1 : (degOk n2) = true) (hc2 : (fromOk zs0 n1) = true) : Calls Try.prog 9 #[v0, .int .i64 n1, .int .i64 n2] w (Gives (.int .i64 (longN (n2.toNat + 1) (zs0.drop n1.toNat) : Nat)) w) := by
  have HV0_0 := hidH hv0
  clear hv0
  have HB0 := hidH (Below.refl w.heap.size w)
  have HC0 := hidH hc0
  have HC1 := hidH hc1
  have HC2 := hidH hc2
  clear hc0 hc1 hc2
  have ⟨hs1, hs2, hs3⟩ := (small_iff zs0).1 HC0.out
  clear hs3
  have ⟨hd1, hd2⟩ := of_decide_eq_true HC1.out
  have ⟨ht2_0, ht2_1⟩ := of_decide_eq_true HC2.out
  obtain ⟨b0, off0, cap0, rfl, hlc0, hcm0, _, _, _, hcx⟩ := HV0_0.out.addr (by omega)
  clear hcx
  unfold maxLen at hcm0
  obtain ⟨k, rfl⟩ : ∃ k : Nat, n1 = (k : Int) := ⟨n1.toNat, by omega⟩
  obtain ⟨d, rfl⟩ : ∃ d : Nat, n2 = (d : Int) := ⟨n2.toNat, by omega⟩
  rw [Int.toNat_natCast, Int.toNat_natCast]
  obtain ⟨ys, hys⟩ : ∃ ys, ys = zs0.drop k := ⟨_, rfl⟩
  rw [← hys]
  have HYS := hidH hys
  clear hys
  clear hd1 hs1
  go_enter Try.func9, Try.ntmps9
  go_wp2_with fail
  refine (sSmall_any _ zs0 _ _ _ HV0_0.out).mono ?_; rintro e w1 ⟨rfl, hb⟩
  have HV0_1 := hidH (HV0_0.out.below hb)
  clear HV0_0
  have HB1 := hidH (HB0.out.trans (hb.mono HB0.out.size))
  clear hb HB0
  rw [HC0.out]
  go_wp2_with fail
  refine (sDeg4_any (d : Int) _).mono ?_; rintro e w_ ⟨rfl, rfl⟩
  rw [HC1.out]
  go_wp2_with fail
  refine (sIn_any (k : Int) (0) ((zs0.length : Int)) (fromOk zs0 (k : Int)) rfl _).mono ?_; rintro e w_ ⟨rfl, rfl⟩
  rw [HC2.out]
  by_cases hck : cap0 = k
  · have hkz : zs0.length = k := by omega
    obtain rfl : ys = [] := by rw [HYS.out]; exact List.drop_eq_nil_of_le (by omega)
    have HR := hidH (sLong_any b0 off0 0 [] d w1 0 w1.heap.size (Row.nil _ _ _ _ _ (Nat.zero_le _) (fun _ => rfl)).lies (Nat.zero_le _) (by omega) (fun q h1 h2 => by simp at h2; omega))
    generalize longN (d + 1) [] = L at *
    subst hck
    have hln : (zs0.length : Int) - cap0 = ((0 : Nat) : Int) := by omega
    go_wp2_with fail
    refine HR.out.mono ?_; rintro e wz ⟨rfl, hb⟩
    have HBZ := hidH (HB1.out.trans (hb.mono HB1.out.size))
    clear hb
    go_wp2_with fail
    go_ret
    exact ⟨rfl, HBZ.out⟩
  · have HR := hidH (sLong_any b0 (off0 + k) (cap0 - k) (zs0.drop k) d w1 _ _ (by have := (HV0_1.out).dropped k (zs0.length - k) (cap0 - k) (by omega) rfl rfl; rwa [List.length_drop]) (by rw [List.length_drop]; omega) (by omega) (fun q h1 h2 => by
      have hkz : k < zs0.length := by rw [List.length_drop] at h2; omega
      have := run_long (zs0.drop k) (d : Int) (small_drop zs0 HC0.out k hkz) HC1.out q h1 h2
      rwa [Int.toNat_natCast] at this))
    rw [List.length_drop] at HR
    rw [← HYS.out] at HR
    generalize longN (d + 1) ys = L at *
    have hln : (zs0.length : Int) - k = ((zs0.length - k : Nat) : Int) := by omega
    have hcn : (cap0 : Int) - k = ((cap0 - k : Nat) : Int) := by omega
    go_wp2_with fail
    refine HR.out.mono ?_; rintro e wz ⟨rfl, hb⟩
    have HBZ := hidH (HB1.out.trans (hb.mono HB1.out.size))
    clear hb
    go_wp2_with fail
    go_ret
    exact ⟨rfl, HBZ.out⟩
theorem sLrun_any (v0 : Value) (zs0 : List Int) (n1 n2 : Int) (w : World) (lo0 hi0 : Nat) (hv0 : Lies w lo0 hi0 v0 zs0) : Calls Try.prog 9 #[v0, .int .i64 n1, .int .i64 n2] w (Gives (.int .i64 (runAns zs0 n1 n2)) w) := by
  unfold runAns
  cases h : (smallOk zs0 && (degOk n2 && fromOk zs0 n1))
  · exact sLrun_no v0 zs0 n1 n2 w lo0 hi0 hv0 h
  · have h' := h
    simp only [Bool.and_eq_true] at h'
    obtain ⟨h0, h1, h2⟩ := h'
    exact sLrun_yes v0 zs0 n1 n2 w lo0 hi0 hv0 h0 h1 h2
end Go.Proofs.Ytgdfbnedaalflaa
