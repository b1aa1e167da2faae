/-
  RoundTable and RoundError: the model, at every argument. No conditions but that slices fit in memory.
-/
import Derived.Test.YtieealgmmkkgoaaRndF
import Derived.Test.YtieealgmmkkgoaaRndC
namespace Go.Proofs.Ytieealgmmkkgoaa
set_option maxRecDepth 4000
open Go.RowKit
theorem sRtab_no (v0 : Value) (zs0 : List Int) (d way : Int) (w : World) (lo0 hi0 : Nat) (hv0 : Lies w lo0 hi0 v0 zs0) (h : rtabB zs0 d way = false) : Calls Try.prog 29 #[v0, .int .i64 d, .int .i64 way] w (NewRowB [] false w) := by
  have HV0 := hidH hv0
  clear hv0
  unfold rtabB at h
  have HO := hidH (row_of_owns (show (w.alloc (.cells #[] 3)).ownsRow w.heap.size 3 1 (.slice (some ⟨w.heap.size, 0, none⟩) 0 0) ([] : List Int).length (ints []) from World.ownsRow_made (base := w.heap.size) (e := 3) (size := 1) w #[] 0 (Nat.le_refl _) (Nat.zero_le _) rfl))
  have HB := hidH (bMore (Below.refl w.heap.size w) (.cells #[] 3))
  cases ht : tableOk zs0
  · have HT := hidH ht
    clear ht h
    go_enter Try.func29, Try.ntmps29
    go_wp2_with fail
    refine (sTableValid_any _ zs0 _ _ _ (HV0.out.below HB.out)).mono ?_; rintro e w2 ⟨rfl, rfl⟩
    rw [HT.out]
    go_wp2_with fail
    go_ret2
    exact ⟨_, rfl, HO.out.1, HB.out⟩
  · have HT := hidH ht
    rw [ht, Bool.true_and] at h
    have HW := hidH h
    clear ht h
    go_enter Try.func29, Try.ntmps29
    go_wp2_with fail
    refine (sTableValid_any _ zs0 _ _ _ (HV0.out.below HB.out)).mono ?_; rintro e w2 ⟨rfl, rfl⟩
    rw [HT.out]
    go_wp2_with fail
    refine (sWay_any d way _).mono ?_; rintro e w2 ⟨rfl, rfl⟩
    rw [HW.out]
    go_wp2_with fail
    go_ret2
    exact ⟨_, rfl, HO.out.1, HB.out⟩
set_option maxHeartbeats 1600000 in
theorem sRtab_yes (v0 : Value) (zs : List Int) (k0 : Nat) (way : Int) (w : World) (lo0 hi0 : Nat) (hv0 : Lies w lo0 hi0 v0 zs) (ht : tableOk zs = true) (hw : wayOk k0 way = true) : Calls Try.prog 29 #[v0, .int .i64 k0, .int .i64 way] w (NewRowB (rndL (tenP k0) way zs) true w) := by
  have HV := hidH hv0
  have ⟨ht1, ht2⟩ := tableOk_len _ ht
  have ⟨hw1, hw2⟩ : k0 ≤ 6 ∧ (0 ≤ way ∧ way ≤ 2) := by
    unfold wayOk at hw
    rw [Bool.and_eq_true] at hw
    have := of_decide_eq_true hw.1
    have := of_decide_eq_true hw.2
    omega
  obtain ⟨b0, off0, cap0, rfl, hlc0, hcm0, hlo0, hhi0, hbw0, hcell0⟩ := hv0.addr (by omega)
  unfold maxLen at hcm0
  have HCELL := hidH hcell0
  have HT := hidH ht
  have HW := hidH hw
  clear hv0 hcell0 ht hw
  obtain ⟨i0, hi0, hz0, hz1, hz2⟩ := info_parts infoInt
  have HO := hidH (World.ownsRow_made (base := w.heap.size) (e := 3) (size := 1) w #[] 0 (Nat.le_refl _) (Nat.zero_le _) rfl)
  have HB0 := hidH (bMore (Below.refl w.heap.size w) (.cells #[] 3))
  have HR := hidH (fun n n1 n2 W => sRound_any n k0 way hw1 n1 n2 hw2.1 hw2.2 W)
  have HLL := hidH (rndL_length (tenP k0) way zs)
  have HGT := hidH (fun k z h => rndL_get (tenP k0) way zs k z h)
  generalize tenP k0 = u at *
  go_enter Try.func29, Try.ntmps29
  go_wp2_with fail
  refine (sTableValid_any _ zs _ _ _ (HV.out.below HB0.out)).mono ?_; rintro e w2 ⟨rfl, rfl⟩
  rw [HT.out]
  go_wp2_with fail
  refine (sWay_any k0 way _).mono ?_; rintro e w2 ⟨rfl, rfl⟩
  rw [HW.out]
  go_wp2_with fail
  go_loopw [8, 9] (fun o i wr => ∃ (k : Nat) (ov : Value), k ≤ zs.length ∧ i = .int .i64 k ∧ ov = o ∧ wr.ownsRow w.heap.size 3 1 ov k (ints ((rndL u way zs).take k)) ∧ Below w.heap.size w wr) (fun _ i _ => zs.length - (intOf i).toNat)
  case atStart => exact ⟨0, _, Nat.zero_le _, rfl, rfl, HO.out, HB0.out⟩
  case round =>
    obtain ⟨k, ov, hk, rfl, rfl, hown, hb⟩ := hrel
    have HWn := hidH hown
    have HBq := hidH hb
    clear hown hb
    have hszq := HBq.out.size
    by_cases hlt : k < zs.length
    · obtain ⟨z, hz⟩ := get_lt zs k hlt
      have hzb := tab_bd HT.out hz
      have hcz := HCELL.out k z hz
      have HX := hidH (ints_snoc _ k _ (HGT.out k z hz))
      have hcw : wr.cell? ⟨b0, off0 + k, none⟩ = some (.int .i64 z) := by rw [HBq.out.cell (p := ⟨b0, off0 + k, none⟩) hbw0]; exact hcz
      have HRZ := hidH (fun W => HR.out z hzb.1 hzb.2 W)
      clear hz hcz
      go_wp2_with fail
      refine (HRZ.out _).mono ?_; rintro e w_ ⟨rfl, rfl⟩
      generalize rndI z u way = rz at *
      go_wp2_with (at_builtin; refine wpList_append_own _ rfl _ _ 22 rfl w.heap.size 3 i0 (.int .i64 0) 1 8 Try.underlying22 hi0 hz0 hz1 hz2 rfl (by decide) _ _ _ rfl (owns_below HWn.out ((Below.refl _ wr).alloc (Nat.le_refl _) _)) ⟨wr.heap.size, 0, none⟩ 1 1 [.int .i64 rz] rfl rfl (news_one wr _ _) (one_one _) (by unfold maxLen; omega) (by omega) (by simp; omega) ?_)
      intro v' w9 hown1 hgrow _
      have HR9 := hidH hown1
      have HG9 := hidH hgrow
      clear hown1 hgrow
      go_wp2_with fail
      go_roundw
      case rel =>
        refine ⟨k + 1, v', by omega, by go_num, rfl, ?_, ?_⟩
        · have h := HR9.out
          rw [HX.out] at h
          exact h
        · exact (HBq.out.alloc hszq _).grown HG9.out (by simp; omega) fun g hg => (HWn.out.lt g hg).1
      case measure => simp [intOf]; omega
    · obtain rfl : k = zs.length := by omega
      go_wp2_with fail
      go_ret2
      have h := HWn.out
      rw [List.take_of_length_le (by rw [HLL.out]; exact Nat.le_refl _), ← HLL.out] at h
      exact ⟨_, rfl, (row_of_owns h).1, HBq.out⟩
theorem sRtab_any (v0 : Value) (zs0 : List Int) (d way : Int) (w : World) (lo0 hi0 : Nat) (hv0 : Lies w lo0 hi0 v0 zs0) : Calls Try.prog 29 #[v0, .int .i64 d, .int .i64 way] w (NewRowB (rtabA zs0 d way) (rtabB zs0 d way) w) := by
  unfold rtabA
  cases h : rtabB zs0 d way
  · exact sRtab_no v0 zs0 d way w lo0 hi0 hv0 h
  · rw [if_pos rfl]
    unfold rtabB at h
    rw [Bool.and_eq_true] at h
    obtain ⟨k, rfl, _⟩ := wayOk_parts h.2
    rw [Int.toNat_natCast]
    exact sRtab_yes v0 zs0 k way w lo0 hi0 hv0 h.1 h.2
theorem eMax_step2 (u way : Int) (zs : List Int) (k : Nat) (z : Int) (h : zs[k]? = some z) : eMax u way zs (k + 1) = max (eMax u way zs k) (max (rndI z u way * u - z) (-(rndI z u way * u - z))) := by
  rw [eMax_step u way zs k z h]
  omega
end Go.Proofs.Ytieealgmmkkgoaa
