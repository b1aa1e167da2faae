/-
  A plate is read: the model. Condition: at most 1048576 texts of at most 2 to the power of 62 bytes.
-/
import Derived.Test.YtgafhkjcdddhcaaDoorLnzB
namespace Go.Proofs.YtgafhkjcdddhcaaDoor
set_option maxRecDepth 4000
open Go.RowKit
theorem many_neg (n : Int) (h0 : n ≤ 0) (h : -9223372036854775808 ≤ n) (w : World) : Calls Tryd.prog 48 #[.string ⟨#[32]⟩, .int .i64 n] w fun e w' => e = .returned (.string (spB 0)) ∧ w' = w := by
  have h2 : (⟨#[]⟩ : ByteArray) = spB 0 := rfl
  go_enter Tryd.func48, Tryd.ntmps48
  go_wp2
  rw [h2]
  go_loopw [0, 1, 5] (fun s k o wr => s = .string ⟨#[32]⟩ ∧ k = .int .i64 n ∧ o = .string (spB 0) ∧ wr = w) (fun _ k _ _ => 0)
  case atStart => exact ⟨rfl, rfl, rfl, rfl⟩
  case round =>
    obtain ⟨rfl, rfl, rfl, rfl⟩ := hrel
    have hlt : ¬ 0 < n := by omega
    go_wp2
    go_ret
    exact ⟨rfl, rfl⟩
theorem mirAt_z (s : ByteArray) : mirAt 0 s s.size = spB 0 := by rw [mirAt_all]; simp
theorem mirAt_r (s : ByteArray) : mirAt 0 s 0 = revB s := by
  rw [mirAt_zero]
  unfold mirB revB
  simp
theorem mirAt_sz (s : ByteArray) (j : Nat) : (mirAt 0 s j).size ≤ s.size := by
  show (List.replicate (0 - s.size) (32 : UInt8) ++ (s.data.toList.drop j).reverse).toArray.size ≤ s.size
  simp
theorem sMirror0_any (s : ByteArray) (hs : s.size ≤ 4611686018427387904) (w : World) : Calls Tryd.prog 54 #[.string s, .int .i64 0] w fun e w' => e = .returned (.string (revB s)) ∧ w' = w := by
  have HM := hidH (fun W => many_neg (-(s.size : Int)) (by omega) (by omega) W)
  have HM2 := hidH (fun W => many_neg (0 - (s.size : Int)) (by omega) (by omega) W)
  have HA := hidH (mirAt_z s)
  have HZ := hidH (mirAt_r s)
  have HT := hidH (fun p h => mirAt_step 0 s p h)
  have HS := hidH (fun j => mirAt_sz s j)
  go_enter Tryd.func54, Tryd.ntmps54
  go_wp2_with fail
  first
    | (refine (HM.out _).mono ?_; rintro e w1 ⟨rfl, hww⟩)
    | (refine (HM2.out _).mono ?_; rintro e w1 ⟨rfl, hww⟩)
  rw [hww]
  clear hww
  go_wp2_with fail
  go_loopw [5, 6] (fun o i wr => ∃ (j : Nat) (x : Int), j ≤ s.size ∧ x + 1 = j ∧ i = .int .i64 x ∧ o = .string (mirAt 0 s j) ∧ wr = w) (fun _ i _ => (intOf i + 1).toNat)
  case atStart => exact ⟨s.size, _, Nat.le_refl _, by omega, rfl, by rw [HA.out], rfl⟩
  case round =>
    obtain ⟨j, x, hj, hx, rfl, rfl, rfl⟩ := hrel
    by_cases h0 : 0 < j
    · obtain ⟨p, rfl⟩ : ∃ p : Nat, x = p := ⟨j - 1, by omega⟩
      obtain rfl : j = p + 1 := by omega
      have hsz := HS.out (p + 1)
      clear hx
      have hps : p < s.size := by omega
      have HT2 := hidH (HT.out p hps)
      go_wp2
      go_roundw
      case rel => exact ⟨p, _, by omega, by omega, rfl, by first | (rw [← HT2.out]; rfl) | (rw [← HT2.out]), by first | rfl | trivial⟩
      case measure => simp [intOf]
    · obtain rfl : j = 0 := by omega
      obtain rfl : x = -1 := by omega
      rw [HZ.out]
      go_wp2
      go_ret
      exact ⟨rfl, rfl⟩
theorem last_split (z : ByteArray) (n : Nat) (h : n < z.size) (hn : n + 1 = z.size) : z.data.toList = (z.extract 0 n).data.toList ++ [z[n]] := by
  rw [ByteArray.data_extract, Array.toList_extract]
  have hl : z.data.toList.length = z.size := by simp
  have hn2 : n < z.data.toList.length := by omega
  simp only [List.extract, List.drop_zero, Nat.sub_zero]
  have : z.data.toList.take n ++ [z.data.toList[n]] = z.data.toList := by
    rw [← List.take_succ_eq_append_getElem hn2, List.take_of_length_le (by omega)]
  rw [← this]
  congr 1
  · rw [this]
theorem unB_of {z : ByteArray} {s : ByteArray} (h : z.data.toList = unL s.data.toList.reverse) : z = unB s := by
  apply ByteArray.ext
  apply Array.toList_inj.1
  rw [h]
  rfl
/-- A text's length. -/
def lenT : Value → Nat
  | .string z => z.size
  | _ => 0
set_option maxHeartbeats 1600000 in
theorem sReadSt_any (v : Value) (cs : List ByteArray) (w : World) (lo hi : Nat) (hv : LiesS w lo hi v cs) (hm : ∀ c ∈ cs, c.size ≤ 1048576) (hn : cs.length ≤ 1048576) : Calls Tryd.prog 29 #[v] w (NewTextsB (rdL cs) (rdOk cs) w) := by
  obtain ⟨i0, hi0, hz0, hz1, hz2⟩ := info_parts infoText
  have HV := hidH hv
  obtain ⟨a, cap, rfl, hlc, hcm, hnil, hcell⟩ := hv
  unfold maxLen at hcm
  have HC := hidH hcell
  have HMM := hidH hm
  have HO := hidH (World.ownsRow_made (base := w.heap.size) (e := 9) (size := 1) w #[] 0 (Nat.le_refl _) (Nat.zero_le _) rfl)
  have B0 := hidH ((Below.refl _ w).alloc (Nat.le_refl _) (.cells #[] 9))
  clear hcell hnil hm
  have hFl : (unP cs).length = cs.length := List.length_map _
  have HFL := hidH hFl
  have HFG := hidH (fun k s (h : cs[k]? = some s) => show (unP cs).take k ++ [unB s] = (unP cs).take (k + 1) by rw [List.take_add_one]; unfold unP; rw [List.getElem?_map, h]; rfl)
  have HFM := hidH (show ∀ c ∈ unP cs, c.size ≤ 9223372036854775807 from fun c hc => by
    obtain ⟨s, hs, rfl⟩ := List.mem_map.1 hc
    have h1 := unB_size s
    have h2 := HMM.out s hs
    omega)
  have HOK := hidH (show rdOk cs = decide (plaL (unP cs) = cs) from rfl)
  have HBD := hidH (rdOk_bad cs)
  have HRL := hidH (show rdL cs = if rdOk cs = true then unP cs else [] from rfl)
  generalize unP cs = F at *
  clear hFl
  go_enter Tryd.func29, Tryd.ntmps29
  go_wp2_with fail
  go_loopw [4, 5] (fun o i wr => ∃ (k : Nat) (ov : Value), k ≤ cs.length ∧ i = .int .i64 k ∧ ov = o ∧ wr.ownsRow w.heap.size 9 1 ov k (intsS (F.take k)) ∧ Below w.heap.size w wr) (fun _ i _ => cs.length - (intOf i).toNat)
  case atStart => exact ⟨0, _, Nat.zero_le _, rfl, rfl, HO.out, B0.out⟩
  case round =>
    obtain ⟨k, ov, hk, rfl, rfl, hown, hb⟩ := hrel
    have HW := hidH hown
    have HB := hidH hb
    have hsz := HB.out.size
    clear hown hb HO B0
    by_cases hlt : k < cs.length
    · obtain ⟨s, hs⟩ := get_lt cs k hlt
      obtain ⟨b, off, rfl, _, _, hc0⟩ := HC.out k s hs
      have hc := (HB.out.cell (p := ⟨b, off + k, none⟩) (cell_blk _ _ _ hc0)).trans hc0
      have hss := HMM.out s (List.mem_of_getElem? hs)
      have HST := hidH (HFG.out k s hs)
      have HMI := hidH (fun W => sMirror0_any s (by omega) W)
      have HS := hidH (ints_snocS' (F.take k) (unB s))
      clear hs hc0
      have hrs := revB_size s
      go_wp2_with fail
      refine (HMI.out _).mono ?_; rintro e w2 ⟨rfl, hww⟩
      rw [hww]
      clear hww
      go_wp2_with fail
      go_loopw [6] (fun t w2 => ∃ z : ByteArray, t = .string z ∧ unL z.data.toList = unL s.data.toList.reverse ∧ z.size ≤ 1048576 ∧ wr = w2) (fun t _ => (lenT t))
      case atStart => exact ⟨_, rfl, by unfold revB; rfl, by omega, rfl⟩
      case round =>
        obtain ⟨z, rfl, hz, hzs, rfl⟩ := hrel
        have HZ := hidH hz
        clear hz
        by_cases h0 : z.size = 0
        · have hz0' : z = ⟨#[]⟩ := ByteArray.ext (Array.eq_empty_of_size_eq_zero h0)
          have HZ2 := hidH (show z.data.toList = unL s.data.toList.reverse by rw [← HZ.out, hz0']; rfl)
          clear hz0'
          have HZZ := hidH (unB_of (z := z) (s := s) HZ2.out)
          have HS2 := hidH (show intsS (F.take k) ++ [Value.string z] = intsS (F.take (k + 1)) by rw [HZZ.out, HS.out, HST.out])
          go_wp2_with (at_builtin; refine wpList_append_own _ rfl _ _ 30 rfl w.heap.size 9 i0 (.string ⟨#[]⟩) 1 16 Tryd.underlying30 hi0 hz0 hz1 hz2 rfl (by decide) _ _ _ rfl (HW.out.alloc _) ⟨wr.heap.size, 0, none⟩ 1 1 [.string z] rfl rfl (news_oneS wr _ _) (one_oneS _) (by unfold maxLen; omega) (by omega) (by simp; omega) ?_)
          intro v' w5 hown1 hgrow _
          have HBL := hidH (((Below.refl _ wr).alloc hsz _).grown hgrow (by simp; omega) fun g hg => (HW.out.lt g hg).1 : Below w.heap.size wr w5)
          rw [HS2.out] at hown1
          have HN := hidH hown1
          clear hown1 hgrow
          go_wp2
          go_roundw
          case rel => exact ⟨k + 1, v', by omega, by go_num, rfl, HN.out, HB.out.trans HBL.out⟩
          case measure => simp [intOf]; omega
        · obtain ⟨n, hn⟩ : ∃ n, n + 1 = z.size := ⟨z.size - 1, by omega⟩
          have hnl : n < z.size := by omega
          have hni : (z.size : Int) - 1 = (n : Int) := by omega
          have HLS := hidH (last_split z n hnl hn)
          have hne : (z.extract 0 n).size = n := by rw [ByteArray.size_extract]; omega
          by_cases hsp : z[n] = 32
          · have HN := hidH (show unL (z.extract 0 n).data.toList = unL s.data.toList.reverse by rw [← HZ.out, HLS.out, hsp, unL_sp])
            have hb1 : ((z[n].toNat : Int) == 32) = true := by rw [hsp]; rfl
            clear hsp hn
            go_wp2_with fail
            go_roundw
            case rel => exact ⟨_, rfl, HN.out, by omega, by first | rfl | trivial⟩
            case measure => simp [lenT]; omega
          · have HZ2 := hidH (show z.data.toList = unL s.data.toList.reverse by rw [← HZ.out, HLS.out, unL_no _ _ hsp])
            have hb1 : ((z[n].toNat : Int) == 32) = false := beq_eq_false_iff_ne.2 (fun e => hsp (UInt8.toNat_inj.1 (by show z[n].toNat = 32; omega)))
            clear hsp hn
            have HZZ := hidH (unB_of (z := z) (s := s) HZ2.out)
            have HS2 := hidH (show intsS (F.take k) ++ [Value.string z] = intsS (F.take (k + 1)) by rw [HZZ.out, HS.out, HST.out])
            go_wp2_with (at_builtin; refine wpList_append_own _ rfl _ _ 30 rfl w.heap.size 9 i0 (.string ⟨#[]⟩) 1 16 Tryd.underlying30 hi0 hz0 hz1 hz2 rfl (by decide) _ _ _ rfl (HW.out.alloc _) ⟨wr.heap.size, 0, none⟩ 1 1 [.string z] rfl rfl (news_oneS wr _ _) (one_oneS _) (by unfold maxLen; omega) (by omega) (by simp; omega) ?_)
            intro v' w5 hown1 hgrow _
            have HBL := hidH (((Below.refl _ wr).alloc hsz _).grown hgrow (by simp; omega) fun g hg => (HW.out.lt g hg).1 : Below w.heap.size wr w5)
            rw [HS2.out] at hown1
            have HN := hidH hown1
            clear hown1 hgrow
            go_wp2
            go_roundw
            case rel => exact ⟨k + 1, v', by omega, by go_num, rfl, HN.out, HB.out.trans HBL.out⟩
            case measure => simp [intOf]; omega
    · obtain rfl : k = cs.length := by omega
      have hrow := (row_of_ownsS HW.out).1
      rw [← HFL.out, List.take_length] at hrow
      have R1 := hidH hrow
      clear hrow HW
      have HLV := hidH (fun W lo hi (h : LiesS W lo hi ov F) => sLinesValid_any _ F W lo hi h HFM.out)
      have HST := hidH (fun W lo hi (h : LiesS W lo hi ov F) => sStereo_any _ F W lo hi h HFM.out)
      cases hlo : linesOk F
      · have HKF := hidH (HBD.out hlo)
        have HRF := hidH (show rdL cs = [] by rw [HRL.out, HKF.out]; rfl)
        rw [hlo] at HLV
        clear hlo
        go_wp2_with fail
        refine (HLV.out _ _ _ R1.out.lies).mono ?_; rintro e w3 ⟨rfl, hb⟩
        have Hb3 := hidH (bThen HB.out hb)
        clear hb
        go_wp2_with fail
        go_ret2
        rw [HKF.out, HRF.out]
        exact ⟨_, rfl, RowS.nil _ _ _ _ _ (by unfold maxLen; omega) (by intro h; cases h), bMore Hb3.out _⟩
      · rw [hlo] at HLV
        clear hlo
        go_wp2_with fail
        refine (HLV.out _ _ _ R1.out.lies).mono ?_; rintro e w3 ⟨rfl, hb⟩
        have R3 := hidH (R1.out.below hb)
        have s3 := hb.size
        have Hb3 := hidH (bThen HB.out hb)
        clear hb R1
        go_wp2_with fail
        refine (HST.out _ _ _ R3.out.lies).mono ?_; rintro e w4 ⟨u, rfl, hr, hb⟩
        have U4 := hidH hr
        have R4 := hidH (R3.out.below hb)
        have s4 := hb.size
        have Hb4 := hidH (bThen Hb3.out hb)
        clear hr hb R3
        go_wp2_with fail
        refine (sSameT_any _ _ _ _ _ _ _ _ _ U4.out.lies (HV.out.below Hb4.out)).mono ?_; rintro e w5 ⟨rfl, hb⟩
        have R5 := hidH (R4.out.below hb)
        have s5 := hb.size
        have Hb5 := hidH (bThen Hb4.out hb)
        rw [← HOK.out]
        clear hb U4 R4
        generalize hok : rdOk cs = rk at *
        cases rk
        · have HRL2 := hidH (show rdL cs = [] by rw [HRL.out]; rfl)
          go_wp2_with fail
          go_ret2
          rw [HRL2.out]
          exact ⟨_, rfl, RowS.nil _ _ _ _ _ (by unfold maxLen; omega) (by intro h; cases h), bMore Hb5.out _⟩
        · have HRL2 := hidH (show rdL cs = F by rw [HRL.out]; rfl)
          go_wp2_with fail
          go_ret2
          rw [HRL2.out]
          exact ⟨_, rfl, R5.out.mono (Nat.le_refl _) (by omega), Hb5.out⟩
end Go.Proofs.YtgafhkjcdddhcaaDoor
