/-
  Sums of powers: the program and the model. No conditions but that slices fit in memory.
-/
import Derived.Test.YtgenniaklpheoaaPolyK
namespace Go.Proofs.Ytgenniaklpheoaa
open Go.RowKit
/-- The coefficients of powers, summed up from the highest one: what both programs reckon, with the wraparound of 64 bits. -/
def pwW (n : Int) : List Int → Int
  | [] => 0
  | x :: c => wrap64 (wrap64 (pwW n c * n) + x)
/-- The sums of powers at 0, 1 and so on. -/
def powV (c : List Int) (m : Nat) : List Int := (List.range m).map fun (i : Nat) => pwW i c
theorem powV_length (c : List Int) (m : Nat) : (powV c m).length = m := by simp [powV]
theorem powV_get (c : List Int) (m i : Nat) (h : i < m) : (powV c m)[i]? = some (pwW i c) := by simp [powV, h]
theorem pwW_drop (n : Int) (c : List Int) (k : Nat) (x : Int) (h : c[k]? = some x) : pwW n (c.drop k) = wrap64 (wrap64 (pwW n (c.drop (k + 1)) * n) + x) := by
  obtain ⟨hk, rfl⟩ := List.getElem?_eq_some_iff.1 h
  rw [List.drop_eq_getElem_cons hk, pwW]
set_option maxHeartbeats 400000 in
theorem sPower_any (v : Value) (zs : List Int) (n : Int) (w : World) (lo hi : Nat) (hv : Lies w lo hi v zs) (hl : zs.length ≤ 1048576) : Calls Try.prog 61 #[v, .int .i64 n] w fun e w' => e = .returned (.int .i64 (pwW n zs)) ∧ w = w' := by
  obtain ⟨a, cap, rfl, hlc, hcm, hnil, hcell⟩ := hv
  unfold maxLen at hcm
  have HC := hidH hcell
  clear hcell hnil
  go_enter Try.func61, Try.ntmps61
  go_wp2_with fail
  go_loop [5, 6] (fun o i => ∃ k : Nat, k ≤ zs.length ∧ i = .int .i64 ((k : Int) - 1) ∧ o = .int .i64 (pwW n (zs.drop k))) (fun _ i => (intOf i + 1).toNat)
  case atStart => exact ⟨zs.length, Nat.le_refl _, rfl, by rw [List.drop_length]; rfl⟩
  case round =>
    obtain ⟨k, hk, rfl, rfl⟩ := hrel
    by_cases hlt : 0 < k
    · obtain ⟨j, rfl⟩ : ∃ j, k = j + 1 := ⟨k - 1, by omega⟩
      obtain ⟨z, hz⟩ := get_lt zs j (by omega)
      obtain ⟨b, off, rfl, _, _, hc⟩ := HC.out j z hz
      have HP := hidH (pwW_drop n zs j z hz)
      have he : (((j + 1 : Nat) : Int) - 1) = (j : Int) := by omega
      rw [he]
      have hjl : j < zs.length := by omega
      clear hz he
      generalize pwW n (zs.drop (j + 1)) = s at *
      go_wp2_with fail
      go_round
      case rel => exact ⟨j, by omega, by go_num, by rw [HP.out]⟩
      case measure => simp [intOf]
    · obtain rfl : k = 0 := by omega
      go_wp2_with fail
      go_ret
      exact ⟨rfl, rfl⟩
set_option maxHeartbeats 400000 in
theorem sumPow_any (v : Value) (zs : List Int) (n : Int) (w : World) (lo hi : Nat) (hv : Lies w lo hi v zs) (hl : zs.length ≤ 1048576) : Calls Try.prog 60 #[v, .int .i64 n] w fun e w' => e = .returned (.int .i64 (pwW n zs)) ∧ w = w' := by
  obtain ⟨a, cap, rfl, hlc, hcm, hnil, hcell⟩ := hv
  unfold maxLen at hcm
  have HC := hidH hcell
  clear hcell hnil
  go_enter Try.func60, Try.ntmps60
  go_wp2_with fail
  go_loop [5, 6] (fun o i => ∃ k : Nat, k ≤ zs.length ∧ i = .int .i64 ((k : Int) - 1) ∧ o = .int .i64 (pwW n (zs.drop k))) (fun _ i => (intOf i + 1).toNat)
  case atStart => exact ⟨zs.length, Nat.le_refl _, rfl, by rw [List.drop_length]; rfl⟩
  case round =>
    obtain ⟨k, hk, rfl, rfl⟩ := hrel
    by_cases hlt : 0 < k
    · obtain ⟨j, rfl⟩ : ∃ j, k = j + 1 := ⟨k - 1, by omega⟩
      obtain ⟨z, hz⟩ := get_lt zs j (by omega)
      obtain ⟨b, off, rfl, _, _, hc⟩ := HC.out j z hz
      have HP := hidH (pwW_drop n zs j z hz)
      have he : (((j + 1 : Nat) : Int) - 1) = (j : Int) := by omega
      rw [he]
      have hjl : j < zs.length := by omega
      clear hz he
      generalize pwW n (zs.drop (j + 1)) = s at *
      go_wp2_with fail
      go_round
      case rel => exact ⟨j, by omega, by go_num, by rw [HP.out]⟩
      case measure => simp [intOf]
    · obtain rfl : k = 0 := by omega
      go_wp2_with fail
      go_ret
      exact ⟨rfl, rfl⟩
/-- What FromPowers answers. -/
def fromL (zs : List Int) : List Int := leadW zs.length (powV zs zs.length)
def fromA (zs : List Int) : List Int := if polyOk zs then resL (fromL zs) else []
def fromB (zs : List Int) : Bool := polyOk zs && polyOk (fromL zs)
theorem fromA_len (zs : List Int) : (fromA zs).length ≤ 1048576 := by unfold fromA; split <;> first | exact resL_len _ | simp
theorem fromP_no (v0 : Value) (zs0 : List Int) (w : World) (lo0 hi0 : Nat) (hv0 : Lies w lo0 hi0 v0 zs0) (h : (polyOk zs0) = false) : Calls Try.prog 24 #[v0] w (NewRowB [] false w) := by
  have HV0_0 := hidH hv0
  clear hv0
  have HB0 := hidH (Below.refl w.heap.size w)
  have HC0 := hidH h
  clear h
  go_enter Try.func24, Try.ntmps24
  go_wp2_with fail
  refine (polyValid_any v0 zs0 _ _ _ HV0_0.out).mono ?_; rintro e w1 ⟨rfl, hb⟩
  have HV0_1 := hidH (HV0_0.out.below hb)
  clear HV0_0
  have HB1 := hidH (HB0.out.trans (hb.mono HB0.out.size))
  clear hb HB0
  rw [HC0.out]
  go_wp2_with fail
  go_ret2
  exact ⟨_, rfl, Row.nil _ _ _ _ _ (Nat.zero_le _) (fun _ => rfl), HB1.out⟩
set_option maxHeartbeats 800000 in
theorem fromP_yes (v0 : Value) (zs0 : List Int) (w : World) (lo0 hi0 : Nat) (hv0 : Lies w lo0 hi0 v0 zs0) (hc0 : (polyOk zs0) = true) : Calls Try.prog 24 #[v0] w (NewRowB (resL (leadW zs0.length (powV zs0 zs0.length))) (polyOk (leadW zs0.length (powV zs0 zs0.length))) w) := by
  have HV0_0 := hidH hv0
  clear hv0
  have HB0 := hidH (Below.refl w.heap.size w)
  have HC0 := hidH hc0
  have ⟨h1, hs⟩ := polyOk_small _ HC0.out
  have h7 := hs.1
  have HS := hidH hs
  clear hs
  clear hc0
  go_enter Try.func24, Try.ntmps24
  go_wp2_with fail
  refine (polyValid_any v0 zs0 _ _ _ HV0_0.out).mono ?_; rintro e w1 ⟨rfl, hb⟩
  have HV0_1 := hidH (HV0_0.out.below hb)
  clear HV0_0
  have HB1 := hidH (HB0.out.trans (hb.mono HB0.out.size))
  clear hb HB0
  rw [HC0.out]
  have HV := hidH HV0_1.out
  obtain ⟨b, off, cap, rfl, hlc, hcm, hl1, hh1, hbw, hcell⟩ := (HV0_1.out).addr (by omega)
  clear hcell
  unfold maxLen at hcm
  have HLL := hidH (powV_length zs0 zs0.length)
  have HM := hidH (Blk.made w1 3 zs0.length)
  have hmk := run_make_row' (P := Try.prog) 23 3 (.int .i64 0) 8 Try.underlying23 infoInt rfl .i64 .i64 zs0.length (by omega) (by omega) w1
  go_wp2_with fail
  go_loopw [14] (fun i wr => ∃ k : Nat, k ≤ zs0.length ∧ i = .int .i64 k ∧ Blk wr (w1).heap.size (fill (powV zs0 zs0.length) k) ∧ Below (w1).heap.size w1 wr) (fun i _ => zs0.length - (intOf i).toNat)
  case atStart => exact ⟨0, Nat.zero_le _, rfl, by have := HM.out; rw [fill_zero, HLL.out]; exact this, (Below.refl _ _).alloc (Nat.le_refl _) _⟩
  case round =>
    obtain ⟨k, hk, rfl, hblk, hb⟩ := hrel
    have HBK := hidH hblk
    have HBq := hidH hb
    clear hblk hb
    by_cases hlt : k < zs0.length
    · obtain ⟨ho, hf⟩ := HBK.out.2 k 0 (fill_at _ _ (by rw [HLL.out]; exact hlt))
      have HG := hidH (fill_set _ k _ (powV_get zs0 zs0.length k hlt))
      go_wp2_with fail
      refine (sumPow_any _ zs0 k wr _ _ (HV.out.below HBq.out) (by omega)).mono ?_; rintro e w2 ⟨rfl, rfl⟩
      have HST := hidH (HBK.out.set k (pwW k zs0))
      go_wp2_with fail
      go_roundw
      case rel => exact ⟨k + 1, by omega, by go_num, by rw [← HG.out]; exact HST.out, HBq.out.setCell (Nat.le_refl _) _⟩
      case measure => simp [intOf]; omega
    · obtain rfl : k = zs0.length := by omega
      have h := HBK.out
      have e := fill_all (powV zs0 zs0.length)
      rw [HLL.out] at e
      rw [e] at h
      have HRW := hidH (h.row (lo := (w1).heap.size) (cap := zs0.length) (n := zs0.length) (Nat.le_refl _) h.1 (by rw [HLL.out]; exact Nat.le_refl _) (by unfold maxLen; omega) HLL.out.symm)
      clear h e
      have HT := through_any _ _ wr _ _ HRW.out.lies (by rw [HLL.out]; omega)
      rw [HLL.out] at HT
      have HT := hidH HT
      generalize leadW zs0.length (powV zs0 zs0.length) = L at *
      generalize polyOk L = r at *
      go_wp2_with (go_at_call 46; refine HT.out.mono ?_; rintro e w2 ⟨v2, rfl, hr, hb⟩)
      go_ret2
      have hsz := HB1.out.size
      exact ⟨_, rfl, hr.mono (by have := HBq.out.size; omega) (Nat.le_refl _), HB1.out.trans ((HBq.out.trans (hb.mono HBq.out.size)).mono hsz)⟩
theorem fromP_any (v0 : Value) (zs0 : List Int) (w : World) (lo0 hi0 : Nat) (hv0 : Lies w lo0 hi0 v0 zs0) : Calls Try.prog 24 #[v0] w (NewRowB (fromA zs0) (fromB zs0) w) := by
  unfold fromA fromB
  cases h : (polyOk zs0)
  · exact fromP_no v0 zs0 w lo0 hi0 hv0 h
  · have h' := h
    try simp only [Bool.and_eq_true] at h'
    exact fromP_yes v0 zs0 w lo0 hi0 hv0 h'
theorem sFromP_no (v0 : Value) (zs0 : List Int) (w : World) (lo0 hi0 : Nat) (hv0 : Lies w lo0 hi0 v0 zs0) (h : (polyOk zs0) = false) : Calls Try.prog 25 #[v0] w (NewRowB [] false w) := by
  have HV0_0 := hidH hv0
  clear hv0
  have HB0 := hidH (Below.refl w.heap.size w)
  have HC0 := hidH h
  clear h
  go_enter Try.func25, Try.ntmps25
  go_wp2_with fail
  refine (sPolyValid_gives v0 zs0 _ _ _ HV0_0.out).mono ?_; rintro e w1 ⟨rfl, hb⟩
  have HV0_1 := hidH (HV0_0.out.below hb)
  clear HV0_0
  have HB1 := hidH (HB0.out.trans (hb.mono HB0.out.size))
  clear hb HB0
  rw [HC0.out]
  go_wp2_with fail
  go_ret2
  exact ⟨_, rfl, Row.nil _ _ _ _ _ (Nat.zero_le _) (fun _ => rfl), HB1.out.trans (((Below.refl _ _).alloc (Nat.le_refl _) _).mono HB1.out.size)⟩
set_option maxHeartbeats 800000 in
theorem sFromP_yes (v0 : Value) (zs0 : List Int) (w : World) (lo0 hi0 : Nat) (hv0 : Lies w lo0 hi0 v0 zs0) (hc0 : (polyOk zs0) = true) : Calls Try.prog 25 #[v0] w (NewRowB (resL (leadW zs0.length (powV zs0 zs0.length))) (polyOk (leadW zs0.length (powV zs0 zs0.length))) w) := by
  have HV0_0 := hidH hv0
  clear hv0
  have HB0 := hidH (Below.refl w.heap.size w)
  have HC0 := hidH hc0
  have ⟨h1, hs⟩ := polyOk_small _ HC0.out
  have h7 := hs.1
  have HS := hidH hs
  clear hs
  clear hc0
  go_enter Try.func25, Try.ntmps25
  go_wp2_with fail
  refine (sPolyValid_gives v0 zs0 _ _ _ HV0_0.out).mono ?_; rintro e w1 ⟨rfl, hb⟩
  have HV0_1 := hidH (HV0_0.out.below hb)
  clear HV0_0
  have HB1 := hidH (HB0.out.trans (hb.mono HB0.out.size))
  clear hb HB0
  rw [HC0.out]
  have HV := hidH HV0_1.out
  obtain ⟨a, cap, rfl, _⟩ := HV0_1.out
  obtain ⟨i0, hi0, hz0, hz1, hz2⟩ := info_parts infoInt
  have HO := hidH (World.ownsRow_made (base := (w1).heap.size) (e := 3) (size := 1) w1 #[] 0 (Nat.le_refl _) (Nat.zero_le _) rfl)
  have HLL := hidH (powV_length zs0 zs0.length)
  go_wp2_with fail
  go_loopw [4, 5] (fun o i wr => ∃ (k : Nat) (ov : Value), k ≤ zs0.length ∧ i = .int .i64 k ∧ ov = o ∧ wr.ownsRow (w1).heap.size 3 1 ov k (ints ((powV zs0 zs0.length).take k)) ∧ Below (w1).heap.size w1 wr) (fun _ i _ => zs0.length - (intOf i).toNat)
  case atStart => exact ⟨0, _, Nat.zero_le _, rfl, rfl, HO.out, (Below.refl _ _).alloc (Nat.le_refl _) _⟩
  case round =>
    obtain ⟨k, ov, hk, rfl, rfl, hown, hb⟩ := hrel
    have HW := hidH hown
    have HBq := hidH hb
    clear hown hb
    have hszq := HBq.out.size
    by_cases hlt : k < zs0.length
    · have HX := hidH (ints_snoc _ k _ (powV_get zs0 zs0.length k hlt))
      go_wp2_with fail
      refine (sPower_any _ zs0 k wr _ _ (HV.out.below HBq.out) (by omega)).mono ?_; rintro e w2 ⟨rfl, rfl⟩
      go_wp2_with (at_builtin; refine wpList_append_own _ rfl _ _ 23 rfl (w1).heap.size 3 i0 (.int .i64 0) 1 8 Try.underlying23 hi0 hz0 hz1 hz2 rfl (by decide) _ _ _ rfl (owns_below HW.out ((Below.refl _ wr).alloc (Nat.le_refl _) _)) ⟨wr.heap.size, 0, none⟩ 1 1 [.int .i64 (pwW (k : Int) zs0)] rfl rfl (news_one wr _ _) (one_one _) (by unfold maxLen; omega) (by omega) (by simp; omega) ?_)
      intro v' w1 hown1 hgrow _
      have HR := hidH hown1
      have HG := hidH hgrow
      clear hown1 hgrow
      go_wp2_with fail
      go_roundw
      case rel =>
        refine ⟨k + 1, v', by omega, by go_num, rfl, ?_, ?_⟩
        · have h := HR.out
          rw [HX.out] at h
          exact h
        · exact (HBq.out.alloc hszq _).grown HG.out (by simp; omega) fun g hg => (HW.out.lt g hg).1
      case measure => simp [intOf]; omega
    · obtain rfl : k = zs0.length := by omega
      have h := HW.out
      rw [List.take_of_length_le (by rw [HLL.out]; exact Nat.le_refl _)] at h
      have HRW := hidH (row_of_owns h).1
      clear h
      have HT := sResult_any _ _ wr _ _ HRW.out.lies (by rw [HLL.out]; omega)
      rw [HLL.out] at HT
      have HT := hidH HT
      generalize leadW zs0.length (powV zs0 zs0.length) = L at *
      generalize polyOk L = r at *
      go_wp2_with (go_at_call 49; refine HT.out.mono ?_; rintro e w2 ⟨v2, rfl, hr, hb⟩)
      go_ret2
      have hsz := HB1.out.size
      exact ⟨_, rfl, hr.mono (by have := HBq.out.size; omega) (Nat.le_refl _), HB1.out.trans ((HBq.out.trans (hb.mono HBq.out.size)).mono hsz)⟩
theorem sFromP_any (v0 : Value) (zs0 : List Int) (w : World) (lo0 hi0 : Nat) (hv0 : Lies w lo0 hi0 v0 zs0) : Calls Try.prog 25 #[v0] w (NewRowB (fromA zs0) (fromB zs0) w) := by
  unfold fromA fromB
  cases h : (polyOk zs0)
  · exact sFromP_no v0 zs0 w lo0 hi0 hv0 h
  · have h' := h
    try simp only [Bool.and_eq_true] at h'
    exact sFromP_yes v0 zs0 w lo0 hi0 hv0 h'
end Go.Proofs.Ytgenniaklpheoaa
