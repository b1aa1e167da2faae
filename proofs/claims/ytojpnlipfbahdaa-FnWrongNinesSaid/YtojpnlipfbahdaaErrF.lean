/-
  NinesOf and ElevensOf: the program and the model, at every argument. No conditions but that slices fit in memory.
-/
import Derived.Test.YtojpnlipfbahdaaErrC
namespace Go.Proofs.Ytojpnlipfbahdaa
set_option maxRecDepth 4000
open Go.RowKit
/-- A remainder that is not negative, as both programs reckon it. -/
def restN (n d : Int) : Int := n % d
theorem tmod_rest (n d : Int) : n.tmod d % d = restN n d := by
  rw [Int.tmod_def, restN, Int.sub_mul_emod_self_left]
theorem tmod_rest2 (n d : Int) : (n.tmod d + d) % d = restN n d := by
  rw [Int.add_emod_right, tmod_rest]
def restL (zs : List Int) (d : Int) : List Int := zs.map fun n => restN n d
theorem restL_length (zs : List Int) (d : Int) : (restL zs d).length = zs.length := by simp [restL]
theorem restL_get (zs : List Int) (d : Int) (k : Nat) (z : Int) (h : zs[k]? = some z) : (restL zs d)[k]? = some (restN z d) := by simp [restL, h]
/-- What NinesOf and ElevensOf answer. -/
def restA (d : Int) (zs : List Int) : List Int := if tableOk zs then restL zs d else []
theorem restA_len (d : Int) (zs : List Int) : (restA d zs).length ≤ 1048576 := by
  unfold restA
  split
  · rename_i h
    have := tableOk_len _ h
    rw [restL_length]; omega
  · simp
theorem rem9_no (v0 : Value) (zs0 : List Int) (w : World) (lo0 hi0 : Nat) (hv0 : Lies w lo0 hi0 v0 zs0) (h : tableOk zs0 = false) : Calls Try.prog 58 #[v0, .int .i64 9] w (NewRow [] w) := by
  have HV0_0 := hidH hv0
  clear hv0
  have HC0 := hidH h
  clear h
  go_enter Try.func58, Try.ntmps58
  go_wp2_with fail
  refine (tableValid_any _ zs0 _ _ _ HV0_0.out).mono ?_; rintro e w1 ⟨rfl, hb⟩
  rw [HC0.out]
  go_wp2_with fail
  go_ret
  exact ⟨_, rfl, Row.nil _ _ _ _ _ (Nat.zero_le _) (fun _ => rfl), hb⟩
set_option maxHeartbeats 800000 in
theorem rem9_yes (v0 : Value) (zs0 : List Int) (w : World) (lo0 hi0 : Nat) (hv0 : Lies w lo0 hi0 v0 zs0) (h : tableOk zs0 = true) : Calls Try.prog 58 #[v0, .int .i64 9] w (NewRow (restL zs0 9) w) := by
  have HV0_0 := hidH hv0
  have ⟨ht1, ht2⟩ := tableOk_len _ h
  obtain ⟨b0, off0, cap0, rfl, hlc0, hcm0, hlo0, hhi0, hbw0, hcell0⟩ := hv0.addr (by omega)
  have HCELL := hidH hcell0
  clear hv0 hcell0
  have HC0 := hidH h
  clear h
  unfold maxLen at hcm0
  go_enter Try.func58, Try.ntmps58
  go_wp2_with fail
  refine (tableValid_any _ zs0 _ _ _ HV0_0.out).mono ?_; rintro e w1 ⟨rfl, hb⟩
  rw [HC0.out]
  have HB1 := hidH hb
  have hsz1 := hb.size
  clear hb HV0_0
  have HLL := hidH (restL_length zs0 9)
  have HM := hidH (Blk.made w1 3 zs0.length)
  have hmk := run_make_row' (P := Try.prog) 25 3 (.int .i64 0) 8 Try.underlying25 infoInt rfl .i64 .i64 zs0.length (by omega) (by omega) w1
  go_wp2_with fail
  go_loopw [16] (fun i wr => ∃ k : Nat, k ≤ zs0.length ∧ i = .int .i64 k ∧ Blk wr w1.heap.size (fill (restL zs0 9) k) ∧ Below w1.heap.size w1 wr) (fun i _ => zs0.length - (intOf i).toNat)
  case atStart => exact ⟨0, Nat.zero_le _, rfl, by have := HM.out; rw [fill_zero, HLL.out]; exact this, (Below.refl _ _).alloc (Nat.le_refl _) _⟩
  case round =>
    obtain ⟨k, hk, rfl, hblk, hb⟩ := hrel
    have HBK := hidH hblk
    have HBq := hidH hb
    clear hblk hb
    by_cases hlt : k < zs0.length
    · obtain ⟨ho, hf⟩ := HBK.out.2 k 0 (fill_at _ _ (by rw [HLL.out]; exact hlt))
      obtain ⟨z, hz⟩ := get_lt zs0 k hlt
      have ⟨z1, z2⟩ := tab_bd HC0.out hz
      have hcz := HCELL.out k z hz
      have hcw : wr.cell? ⟨b0, off0 + k, none⟩ = some (.int .i64 z) := by rw [HBq.out.cell (p := ⟨b0, off0 + k, none⟩) (by show b0 < w1.heap.size; omega), HB1.out.cell (p := ⟨b0, off0 + k, none⟩) hbw0]; exact hcz
      have HG := hidH (fill_set _ k _ (restL_get zs0 9 k z hz))
      have HST := hidH (HBK.out.set k (z.tmod 9 % 9))
      have hm1 : -9 < z.tmod 9 ∧ z.tmod 9 < 9 := by have := Int.tmod_lt_of_pos z (show (0 : Int) < 9 by omega); have := Int.neg_tmod z 9; have := Int.tmod_lt_of_pos (-z) (show (0 : Int) < 9 by omega); omega
      clear hcz hz
      rw [← tmod_rest] at HG
      go_wp2_with fail
      go_roundw
      case rel => exact ⟨k + 1, by omega, by go_num, by rw [← HG.out]; exact HST.out, HBq.out.setCell (Nat.le_refl _) _⟩
      case measure => simp [intOf]; omega
    · obtain rfl : k = zs0.length := by omega
      go_wp2_with fail
      go_ret
      have h := HBK.out
      have e := fill_all (restL zs0 9)
      rw [HLL.out] at e
      rw [e] at h
      exact ⟨_, rfl, h.row (by omega) h.1 (by rw [HLL.out]; exact Nat.le_refl _) (by unfold maxLen; omega) HLL.out.symm, HB1.out.trans (HBq.out.mono HB1.out.size)⟩
theorem rem9_any (v0 : Value) (zs0 : List Int) (w : World) (lo0 hi0 : Nat) (hv0 : Lies w lo0 hi0 v0 zs0) : Calls Try.prog 58 #[v0, .int .i64 9] w (NewRow (restA 9 zs0) w) := by
  unfold restA
  cases h : tableOk zs0
  · exact rem9_no v0 zs0 w lo0 hi0 hv0 h
  · exact rem9_yes v0 zs0 w lo0 hi0 hv0 h
theorem rem11_no (v0 : Value) (zs0 : List Int) (w : World) (lo0 hi0 : Nat) (hv0 : Lies w lo0 hi0 v0 zs0) (h : tableOk zs0 = false) : Calls Try.prog 58 #[v0, .int .i64 11] w (NewRow [] w) := by
  have HV0_0 := hidH hv0
  clear hv0
  have HC0 := hidH h
  clear h
  go_enter Try.func58, Try.ntmps58
  go_wp2_with fail
  refine (tableValid_any _ zs0 _ _ _ HV0_0.out).mono ?_; rintro e w1 ⟨rfl, hb⟩
  rw [HC0.out]
  go_wp2_with fail
  go_ret
  exact ⟨_, rfl, Row.nil _ _ _ _ _ (Nat.zero_le _) (fun _ => rfl), hb⟩
set_option maxHeartbeats 800000 in
theorem rem11_yes (v0 : Value) (zs0 : List Int) (w : World) (lo0 hi0 : Nat) (hv0 : Lies w lo0 hi0 v0 zs0) (h : tableOk zs0 = true) : Calls Try.prog 58 #[v0, .int .i64 11] w (NewRow (restL zs0 11) w) := by
  have HV0_0 := hidH hv0
  have ⟨ht1, ht2⟩ := tableOk_len _ h
  obtain ⟨b0, off0, cap0, rfl, hlc0, hcm0, hlo0, hhi0, hbw0, hcell0⟩ := hv0.addr (by omega)
  have HCELL := hidH hcell0
  clear hv0 hcell0
  have HC0 := hidH h
  clear h
  unfold maxLen at hcm0
  go_enter Try.func58, Try.ntmps58
  go_wp2_with fail
  refine (tableValid_any _ zs0 _ _ _ HV0_0.out).mono ?_; rintro e w1 ⟨rfl, hb⟩
  rw [HC0.out]
  have HB1 := hidH hb
  have hsz1 := hb.size
  clear hb HV0_0
  have HLL := hidH (restL_length zs0 11)
  have HM := hidH (Blk.made w1 3 zs0.length)
  have hmk := run_make_row' (P := Try.prog) 25 3 (.int .i64 0) 8 Try.underlying25 infoInt rfl .i64 .i64 zs0.length (by omega) (by omega) w1
  go_wp2_with fail
  go_loopw [16] (fun i wr => ∃ k : Nat, k ≤ zs0.length ∧ i = .int .i64 k ∧ Blk wr w1.heap.size (fill (restL zs0 11) k) ∧ Below w1.heap.size w1 wr) (fun i _ => zs0.length - (intOf i).toNat)
  case atStart => exact ⟨0, Nat.zero_le _, rfl, by have := HM.out; rw [fill_zero, HLL.out]; exact this, (Below.refl _ _).alloc (Nat.le_refl _) _⟩
  case round =>
    obtain ⟨k, hk, rfl, hblk, hb⟩ := hrel
    have HBK := hidH hblk
    have HBq := hidH hb
    clear hblk hb
    by_cases hlt : k < zs0.length
    · obtain ⟨ho, hf⟩ := HBK.out.2 k 0 (fill_at _ _ (by rw [HLL.out]; exact hlt))
      obtain ⟨z, hz⟩ := get_lt zs0 k hlt
      have ⟨z1, z2⟩ := tab_bd HC0.out hz
      have hcz := HCELL.out k z hz
      have hcw : wr.cell? ⟨b0, off0 + k, none⟩ = some (.int .i64 z) := by rw [HBq.out.cell (p := ⟨b0, off0 + k, none⟩) (by show b0 < w1.heap.size; omega), HB1.out.cell (p := ⟨b0, off0 + k, none⟩) hbw0]; exact hcz
      have HG := hidH (fill_set _ k _ (restL_get zs0 11 k z hz))
      have HST := hidH (HBK.out.set k (z.tmod 11 % 11))
      have hm1 : -11 < z.tmod 11 ∧ z.tmod 11 < 11 := by have := Int.tmod_lt_of_pos z (show (0 : Int) < 11 by omega); have := Int.neg_tmod z 11; have := Int.tmod_lt_of_pos (-z) (show (0 : Int) < 11 by omega); omega
      clear hcz hz
      rw [← tmod_rest] at HG
      go_wp2_with fail
      go_roundw
      case rel => exact ⟨k + 1, by omega, by go_num, by rw [← HG.out]; exact HST.out, HBq.out.setCell (Nat.le_refl _) _⟩
      case measure => simp [intOf]; omega
    · obtain rfl : k = zs0.length := by omega
      go_wp2_with fail
      go_ret
      have h := HBK.out
      have e := fill_all (restL zs0 11)
      rw [HLL.out] at e
      rw [e] at h
      exact ⟨_, rfl, h.row (by omega) h.1 (by rw [HLL.out]; exact Nat.le_refl _) (by unfold maxLen; omega) HLL.out.symm, HB1.out.trans (HBq.out.mono HB1.out.size)⟩
theorem rem11_any (v0 : Value) (zs0 : List Int) (w : World) (lo0 hi0 : Nat) (hv0 : Lies w lo0 hi0 v0 zs0) : Calls Try.prog 58 #[v0, .int .i64 11] w (NewRow (restA 11 zs0) w) := by
  unfold restA
  cases h : tableOk zs0
  · exact rem11_no v0 zs0 w lo0 hi0 hv0 h
  · exact rem11_yes v0 zs0 w lo0 hi0 hv0 h
theorem nines_any (v0 : Value) (zs0 : List Int) (w : World) (lo0 hi0 : Nat) (hv0 : Lies w lo0 hi0 v0 zs0) : Calls Try.prog 20 #[v0] w (NewRow (restA 9 zs0) w) := by
  have HK := hidH (rem9_any v0 zs0 w lo0 hi0 hv0)
  clear hv0
  go_enter Try.func20, Try.ntmps20
  go_wp2_with fail
  refine HK.out.mono ?_; rintro e w1 ⟨v1, rfl, hr, hb⟩
  have HR := hidH hr
  have HB := hidH hb
  clear hr hb
  go_wp2_with fail
  go_ret
  exact ⟨_, rfl, HR.out, HB.out⟩
theorem elevens_any (v0 : Value) (zs0 : List Int) (w : World) (lo0 hi0 : Nat) (hv0 : Lies w lo0 hi0 v0 zs0) : Calls Try.prog 21 #[v0] w (NewRow (restA 11 zs0) w) := by
  have HK := hidH (rem11_any v0 zs0 w lo0 hi0 hv0)
  clear hv0
  go_enter Try.func21, Try.ntmps21
  go_wp2_with fail
  refine HK.out.mono ?_; rintro e w1 ⟨v1, rfl, hr, hb⟩
  have HR := hidH hr
  have HB := hidH hb
  clear hr hb
  go_wp2_with fail
  go_ret
  exact ⟨_, rfl, HR.out, HB.out⟩
/-- A call that answers a new row of numbers of its own. -/
def NewOwn (zs : List Int) (w : World) (e : Ending) (w' : World) : Prop := ∃ v, e = .returned v ∧ w'.ownsRow w.heap.size 3 1 v zs.length (ints zs) ∧ Below w.heap.size w w'
theorem sRest9_any (z : Int) (hz : -1000000000 ≤ z ∧ z ≤ 1000000000) (w : World) : Calls Try.prog 61 #[.int .i64 z, .int .i64 9] w fun e w' => e = .returned (.int .i64 (restN z 9)) ∧ w = w' := by
  have hm1 : -9 < z.tmod 9 ∧ z.tmod 9 < 9 := by have := Int.tmod_lt_of_pos z (show (0 : Int) < 9 by omega); have := Int.neg_tmod z 9; have := Int.tmod_lt_of_pos (-z) (show (0 : Int) < 9 by omega); omega
  obtain ⟨hz1, hz2⟩ := hz
  have HR := hidH (tmod_rest2 z 9)
  go_enter Try.func61, Try.ntmps61
  go_wp2
  go_ret
  exact ⟨by rw [← HR.out]; rfl, rfl⟩
theorem sRests9_own (v : Value) (zs : List Int) (w : World) (lo hi : Nat) (hv : Lies w lo hi v zs) : Calls Try.prog 59 #[v, .int .i64 9] w (NewOwn (restA 9 zs) w) := by
  have HV := hidH hv
  obtain ⟨a, cap, rfl, hlc, hcm, hnil, hcell⟩ := hv
  unfold maxLen at hcm
  have HCELL := hidH hcell
  clear hnil hcell
  obtain ⟨i0, hi0, hz0, hz1, hz2⟩ := info_parts infoInt
  have HO := hidH (World.ownsRow_made (base := w.heap.size) (e := 3) (size := 1) w #[] 0 (Nat.le_refl _) (Nat.zero_le _) rfl)
  cases ht : tableOk zs
  · have HT := hidH ht
    have HE := hidH (show restA 9 zs = [] by rw [restA, ht]; rfl)
    clear ht
    go_enter Try.func59, Try.ntmps59
    go_wp2_with fail
    go_loopw [5, 6] (fun o i wr => i = .int .i64 0 ∧ o = .slice (some ⟨w.heap.size, 0, none⟩) 0 0 ∧ wr.ownsRow w.heap.size 3 1 (.slice (some ⟨w.heap.size, 0, none⟩) 0 0) 0 (ints []) ∧ Below w.heap.size w wr) (fun _ _ _ => 0)
    case atStart => exact ⟨rfl, rfl, HO.out, (Below.refl _ _).alloc (Nat.le_refl _) _⟩
    case round =>
      obtain ⟨rfl, rfl, hown, hb⟩ := hrel
      have HBq := hidH hb
      have HOW := hidH hown
      clear hb hown
      by_cases h0 : 0 < zs.length
      · go_wp2_with fail
        refine (sTableValid_gives _ zs _ _ _ (HV.out.below HBq.out)).mono ?_; rintro e w1 ⟨rfl, hb⟩
        rw [HT.out]
        have HB2 := hidH (HBq.out.trans (hb.mono HBq.out.size))
        have HOW2 := hidH (owns_below HOW.out hb)
        clear hb
        go_wp2_with fail
        go_ret
        rw [HE.out]
        exact ⟨_, rfl, HOW2.out, HB2.out⟩
      · have h0' : zs.length = 0 := by omega
        go_wp2_with fail
        go_ret
        rw [HE.out]
        exact ⟨_, rfl, HOW.out, HBq.out⟩
  · have HT := hidH ht
    have ⟨ht1, ht2⟩ := tableOk_len _ ht
    have HE := hidH (show restA 9 zs = restL zs 9 by rw [restA, ht]; rfl)
    have HLL := hidH (restL_length zs 9)
    clear ht
    go_enter Try.func59, Try.ntmps59
    go_wp2_with fail
    go_loopw [5, 6] (fun o i wr => ∃ (k : Nat) (ov : Value), k ≤ zs.length ∧ i = .int .i64 k ∧ ov = o ∧ wr.ownsRow w.heap.size 3 1 ov k (ints ((restL zs 9).take k)) ∧ Below w.heap.size w wr) (fun _ i _ => zs.length - (intOf i).toNat)
    case atStart => exact ⟨0, _, Nat.zero_le _, rfl, rfl, HO.out, (Below.refl _ _).alloc (Nat.le_refl _) _⟩
    case round =>
      obtain ⟨k, ov, hk, rfl, rfl, hown, hb⟩ := hrel
      have HW := hidH hown
      have HBq := hidH hb
      clear hown hb
      have hszq := HBq.out.size
      by_cases hlt : k < zs.length
      · obtain ⟨z, hz⟩ := get_lt zs k hlt
        have hzb := tab_bd HT.out hz
        obtain ⟨b0, off0, rfl, _, _, hcz⟩ := HCELL.out k z hz
        have HX := hidH (ints_snoc _ k _ (restL_get zs 9 k z hz))
        have HCZ := hidH hcz
        have HBZ := hidH (cell_blk _ _ _ hcz)
        clear hz hcz
        go_wp2_with fail
        refine (sTableValid_gives _ zs _ _ _ (HV.out.below HBq.out)).mono ?_; rintro e w1 ⟨rfl, hb⟩
        rw [HT.out]
        have HB2 := hidH (HBq.out.trans (hb.mono HBq.out.size))
        have HW2 := hidH (owns_below HW.out hb)
        have hcw : w1.cell? ⟨b0, off0 + k, none⟩ = some (.int .i64 z) := by rw [HB2.out.cell (p := ⟨b0, off0 + k, none⟩) HBZ.out]; exact HCZ.out
        have hsz2 := HB2.out.size
        clear hb HW HBq
        go_wp2_with fail
        refine (sRest9_any z hzb _).mono ?_; rintro e w_ ⟨rfl, rfl⟩
        generalize restN z 9 = rz at *
        go_wp2_with (at_builtin; refine wpList_append_own _ rfl _ _ 25 rfl w.heap.size 3 i0 (.int .i64 0) 1 8 Try.underlying25 hi0 hz0 hz1 hz2 rfl (by decide) _ _ _ rfl (owns_below HW2.out ((Below.refl _ w1).alloc (Nat.le_refl _) _)) ⟨w1.heap.size, 0, none⟩ 1 1 [.int .i64 rz] rfl rfl (news_one w1 _ _) (one_one _) (by unfold maxLen; omega) (by omega) (by simp; omega) ?_)
        intro v' w9 hown1 hgrow _
        have HR := hidH hown1
        have HG := hidH hgrow
        clear hown1 hgrow
        go_wp2_with fail
        go_roundw
        case rel =>
          refine ⟨k + 1, v', by omega, by go_num, rfl, ?_, ?_⟩
          · have h := HR.out
            rw [HX.out] at h
            exact h
          · exact (HB2.out.alloc hsz2 _).grown HG.out (by simp; omega) fun g hg => (HW2.out.lt g hg).1
        case measure => simp [intOf]; omega
      · obtain rfl : k = zs.length := by omega
        go_wp2_with fail
        go_ret
        have h := HW.out
        rw [List.take_of_length_le (by rw [HLL.out]; exact Nat.le_refl _)] at h
        rw [HE.out]
        exact ⟨_, rfl, by rw [HLL.out]; exact h, HBq.out⟩
theorem sRests9_any (v : Value) (zs : List Int) (w : World) (lo hi : Nat) (hv : Lies w lo hi v zs) : Calls Try.prog 59 #[v, .int .i64 9] w (NewRow (restA 9 zs) w) :=
  (sRests9_own v zs w lo hi hv).mono fun _ _ ⟨v, h1, h2, h3⟩ => ⟨v, h1, (row_of_owns h2).1, h3⟩
theorem sRest11_any (z : Int) (hz : -1000000000 ≤ z ∧ z ≤ 1000000000) (w : World) : Calls Try.prog 61 #[.int .i64 z, .int .i64 11] w fun e w' => e = .returned (.int .i64 (restN z 11)) ∧ w = w' := by
  have hm1 : -11 < z.tmod 11 ∧ z.tmod 11 < 11 := by have := Int.tmod_lt_of_pos z (show (0 : Int) < 11 by omega); have := Int.neg_tmod z 11; have := Int.tmod_lt_of_pos (-z) (show (0 : Int) < 11 by omega); omega
  obtain ⟨hz1, hz2⟩ := hz
  have HR := hidH (tmod_rest2 z 11)
  go_enter Try.func61, Try.ntmps61
  go_wp2
  go_ret
  exact ⟨by rw [← HR.out]; rfl, rfl⟩
theorem sRests11_own (v : Value) (zs : List Int) (w : World) (lo hi : Nat) (hv : Lies w lo hi v zs) : Calls Try.prog 59 #[v, .int .i64 11] w (NewOwn (restA 11 zs) w) := by
  have HV := hidH hv
  obtain ⟨a, cap, rfl, hlc, hcm, hnil, hcell⟩ := hv
  unfold maxLen at hcm
  have HCELL := hidH hcell
  clear hnil hcell
  obtain ⟨i0, hi0, hz0, hz1, hz2⟩ := info_parts infoInt
  have HO := hidH (World.ownsRow_made (base := w.heap.size) (e := 3) (size := 1) w #[] 0 (Nat.le_refl _) (Nat.zero_le _) rfl)
  cases ht : tableOk zs
  · have HT := hidH ht
    have HE := hidH (show restA 11 zs = [] by rw [restA, ht]; rfl)
    clear ht
    go_enter Try.func59, Try.ntmps59
    go_wp2_with fail
    go_loopw [5, 6] (fun o i wr => i = .int .i64 0 ∧ o = .slice (some ⟨w.heap.size, 0, none⟩) 0 0 ∧ wr.ownsRow w.heap.size 3 1 (.slice (some ⟨w.heap.size, 0, none⟩) 0 0) 0 (ints []) ∧ Below w.heap.size w wr) (fun _ _ _ => 0)
    case atStart => exact ⟨rfl, rfl, HO.out, (Below.refl _ _).alloc (Nat.le_refl _) _⟩
    case round =>
      obtain ⟨rfl, rfl, hown, hb⟩ := hrel
      have HBq := hidH hb
      have HOW := hidH hown
      clear hb hown
      by_cases h0 : 0 < zs.length
      · go_wp2_with fail
        refine (sTableValid_gives _ zs _ _ _ (HV.out.below HBq.out)).mono ?_; rintro e w1 ⟨rfl, hb⟩
        rw [HT.out]
        have HB2 := hidH (HBq.out.trans (hb.mono HBq.out.size))
        have HOW2 := hidH (owns_below HOW.out hb)
        clear hb
        go_wp2_with fail
        go_ret
        rw [HE.out]
        exact ⟨_, rfl, HOW2.out, HB2.out⟩
      · have h0' : zs.length = 0 := by omega
        go_wp2_with fail
        go_ret
        rw [HE.out]
        exact ⟨_, rfl, HOW.out, HBq.out⟩
  · have HT := hidH ht
    have ⟨ht1, ht2⟩ := tableOk_len _ ht
    have HE := hidH (show restA 11 zs = restL zs 11 by rw [restA, ht]; rfl)
    have HLL := hidH (restL_length zs 11)
    clear ht
    go_enter Try.func59, Try.ntmps59
    go_wp2_with fail
    go_loopw [5, 6] (fun o i wr => ∃ (k : Nat) (ov : Value), k ≤ zs.length ∧ i = .int .i64 k ∧ ov = o ∧ wr.ownsRow w.heap.size 3 1 ov k (ints ((restL zs 11).take k)) ∧ Below w.heap.size w wr) (fun _ i _ => zs.length - (intOf i).toNat)
    case atStart => exact ⟨0, _, Nat.zero_le _, rfl, rfl, HO.out, (Below.refl _ _).alloc (Nat.le_refl _) _⟩
    case round =>
      obtain ⟨k, ov, hk, rfl, rfl, hown, hb⟩ := hrel
      have HW := hidH hown
      have HBq := hidH hb
      clear hown hb
      have hszq := HBq.out.size
      by_cases hlt : k < zs.length
      · obtain ⟨z, hz⟩ := get_lt zs k hlt
        have hzb := tab_bd HT.out hz
        obtain ⟨b0, off0, rfl, _, _, hcz⟩ := HCELL.out k z hz
        have HX := hidH (ints_snoc _ k _ (restL_get zs 11 k z hz))
        have HCZ := hidH hcz
        have HBZ := hidH (cell_blk _ _ _ hcz)
        clear hz hcz
        go_wp2_with fail
        refine (sTableValid_gives _ zs _ _ _ (HV.out.below HBq.out)).mono ?_; rintro e w1 ⟨rfl, hb⟩
        rw [HT.out]
        have HB2 := hidH (HBq.out.trans (hb.mono HBq.out.size))
        have HW2 := hidH (owns_below HW.out hb)
        have hcw : w1.cell? ⟨b0, off0 + k, none⟩ = some (.int .i64 z) := by rw [HB2.out.cell (p := ⟨b0, off0 + k, none⟩) HBZ.out]; exact HCZ.out
        have hsz2 := HB2.out.size
        clear hb HW HBq
        go_wp2_with fail
        refine (sRest11_any z hzb _).mono ?_; rintro e w_ ⟨rfl, rfl⟩
        generalize restN z 11 = rz at *
        go_wp2_with (at_builtin; refine wpList_append_own _ rfl _ _ 25 rfl w.heap.size 3 i0 (.int .i64 0) 1 8 Try.underlying25 hi0 hz0 hz1 hz2 rfl (by decide) _ _ _ rfl (owns_below HW2.out ((Below.refl _ w1).alloc (Nat.le_refl _) _)) ⟨w1.heap.size, 0, none⟩ 1 1 [.int .i64 rz] rfl rfl (news_one w1 _ _) (one_one _) (by unfold maxLen; omega) (by omega) (by simp; omega) ?_)
        intro v' w9 hown1 hgrow _
        have HR := hidH hown1
        have HG := hidH hgrow
        clear hown1 hgrow
        go_wp2_with fail
        go_roundw
        case rel =>
          refine ⟨k + 1, v', by omega, by go_num, rfl, ?_, ?_⟩
          · have h := HR.out
            rw [HX.out] at h
            exact h
          · exact (HB2.out.alloc hsz2 _).grown HG.out (by simp; omega) fun g hg => (HW2.out.lt g hg).1
        case measure => simp [intOf]; omega
      · obtain rfl : k = zs.length := by omega
        go_wp2_with fail
        go_ret
        have h := HW.out
        rw [List.take_of_length_le (by rw [HLL.out]; exact Nat.le_refl _)] at h
        rw [HE.out]
        exact ⟨_, rfl, by rw [HLL.out]; exact h, HBq.out⟩
theorem sRests11_any (v : Value) (zs : List Int) (w : World) (lo hi : Nat) (hv : Lies w lo hi v zs) : Calls Try.prog 59 #[v, .int .i64 11] w (NewRow (restA 11 zs) w) :=
  (sRests11_own v zs w lo hi hv).mono fun _ _ ⟨v, h1, h2, h3⟩ => ⟨v, h1, (row_of_owns h2).1, h3⟩
theorem sNines_own (v0 : Value) (zs0 : List Int) (w : World) (lo0 hi0 : Nat) (hv0 : Lies w lo0 hi0 v0 zs0) : Calls Try.prog 22 #[v0] w (NewOwn (restA 9 zs0) w) := by
  have HK := hidH (sRests9_own v0 zs0 w lo0 hi0 hv0)
  clear hv0
  go_enter Try.func22, Try.ntmps22
  go_wp2_with fail
  refine HK.out.mono ?_; rintro e w1 ⟨v1, rfl, hr, hb⟩
  have HR := hidH hr
  have HB := hidH hb
  clear hr hb
  go_wp2_with fail
  go_ret
  exact ⟨_, rfl, HR.out, HB.out⟩
theorem sNines_any (v0 : Value) (zs0 : List Int) (w : World) (lo0 hi0 : Nat) (hv0 : Lies w lo0 hi0 v0 zs0) : Calls Try.prog 22 #[v0] w (NewRow (restA 9 zs0) w) := by
  have HK := hidH (sRests9_any v0 zs0 w lo0 hi0 hv0)
  clear hv0
  go_enter Try.func22, Try.ntmps22
  go_wp2_with fail
  refine HK.out.mono ?_; rintro e w1 ⟨v1, rfl, hr, hb⟩
  have HR := hidH hr
  have HB := hidH hb
  clear hr hb
  go_wp2_with fail
  go_ret
  exact ⟨_, rfl, HR.out, HB.out⟩
theorem sElevens_any (v0 : Value) (zs0 : List Int) (w : World) (lo0 hi0 : Nat) (hv0 : Lies w lo0 hi0 v0 zs0) : Calls Try.prog 23 #[v0] w (NewRow (restA 11 zs0) w) := by
  have HK := hidH (sRests11_any v0 zs0 w lo0 hi0 hv0)
  clear hv0
  go_enter Try.func23, Try.ntmps23
  go_wp2_with fail
  refine HK.out.mono ?_; rintro e w1 ⟨v1, rfl, hr, hb⟩
  have HR := hidH hr
  have HB := hidH hb
  clear hr hb
  go_wp2_with fail
  go_ret
  exact ⟨_, rfl, HR.out, HB.out⟩
end Go.Proofs.Ytojpnlipfbahdaa
