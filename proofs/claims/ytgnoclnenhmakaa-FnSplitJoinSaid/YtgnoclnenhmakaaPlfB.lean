/-
  FewestSegments: the model.
  FewestSegments: the model, at every argument. No conditions but that slices fit in memory.
-/
import Derived.Test.YtgnoclnenhmakaaPlfM
import Derived.BigRegion
namespace Go.Proofs.Ytgnoclnenhmakaa
set_option maxRecDepth 4000
open Go.RowKit
/-- The fewest segments for the table from each place on, of which the first k are still 0. -/
def bestZ (nx : Nat → Nat) (n : Nat) : List Int := (List.range (n + 1)).map fun i => ((gN nx n i : Nat) : Int)
def fillZ (nx : Nat → Nat) (n k : Nat) : List Int := List.replicate k 0 ++ (bestZ nx n).drop k
theorem bestZ_length (nx : Nat → Nat) (n : Nat) : (bestZ nx n).length = n + 1 := by simp [bestZ]
theorem bestZ_get (nx : Nat → Nat) (n j : Nat) (h : j ≤ n) : (bestZ nx n)[j]? = some ((gN nx n j : Nat) : Int) := by
  unfold bestZ; rw [List.getElem?_map, List.getElem?_range (by omega)]; rfl
theorem fillZ_length (nx : Nat → Nat) (n k : Nat) (h : k ≤ n + 1) : (fillZ nx n k).length = n + 1 := by
  unfold fillZ; rw [List.length_append, List.length_replicate, List.length_drop, bestZ_length]; omega
theorem fillZ_high (nx : Nat → Nat) (n k j : Nat) (hk : k ≤ j) (h : j ≤ n) : (fillZ nx n k)[j]? = some ((gN nx n j : Nat) : Int) := by
  unfold fillZ
  rw [List.getElem?_append_right (by simp; omega), List.length_replicate, List.getElem?_drop, show k + (j - k) = j by omega]
  exact bestZ_get nx n j h
theorem fillZ_low (nx : Nat → Nat) (n k j : Nat) (h : j < k) : (fillZ nx n k)[j]? = some 0 := by
  unfold fillZ
  rw [List.getElem?_append_left (by simp; omega), List.getElem?_replicate, if_pos h]
theorem fillZ_set (nx : Nat → Nat) (n p : Nat) (hp : p ≤ n) : (fillZ nx n (p + 1)).set p ((gN nx n p : Nat) : Int) = fillZ nx n p := by
  apply List.ext_getElem?
  intro j
  rw [List.getElem?_set, fillZ_length nx n (p + 1) (by omega)]
  by_cases e : p = j
  · subst e
    rw [if_pos rfl, if_pos (by omega), fillZ_high nx n p p (Nat.le_refl _) hp]
  · rw [if_neg e]
    by_cases c : j < p
    · rw [fillZ_low nx n (p + 1) j (by omega), fillZ_low nx n p j c]
    · by_cases d : j ≤ n
      · rw [fillZ_high nx n (p + 1) j (by omega) d, fillZ_high nx n p j (by omega) d]
      · rw [List.getElem?_eq_none (by rw [fillZ_length nx n (p + 1) (by omega)]; omega), List.getElem?_eq_none (by rw [fillZ_length nx n p (by omega)]; omega)]
theorem fillZ_start (nx : Nat → Nat) (n : Nat) : fillZ nx n n = List.replicate (n + 1) 0 := by
  apply List.ext_getElem?
  intro j
  rw [List.getElem?_replicate]
  by_cases c : j < n
  · rw [fillZ_low nx n n j c, if_pos (by omega)]
  · by_cases d : j = n
    · subst d; rw [fillZ_high nx j j j (Nat.le_refl _) (Nat.le_refl _), gN_end j (Nat.le_refl _), if_pos (by omega)]; rfl
    · rw [List.getElem?_eq_none (by rw [fillZ_length nx n n (by omega)]; omega), if_neg (by omega)]
theorem set_twice (l : List Int) (p : Nat) (x y : Int) : (l.set p x).set p y = l.set p y := by rw [List.set_set]
set_option maxHeartbeats 6400000 in
theorem sBest5_any (v0 : Value) (zs : List Int) (d : Nat) (w : World) (hv0 : Lies w 0 w.heap.size v0 zs) (hs : smallOk zs = true) (hd : degOk (d : Int) = true) : Calls Try.prog 72 #[v0, .int .i64 (d : Int), .int .i64 1, .int .i64 0] w (NewRow (bestZ (nxZ (d + 1) zs) zs.length) w) := by
  have ⟨hl1, hl60, _⟩ := (small_iff zs).1 hs
  have HF := hidH (nxZ_fwd (d + 1) zs (by omega))
  obtain ⟨b0, off0, cap0, rfl, hlc0, hcm0, _, _, hbw0, _⟩ := hv0.addr (by omega)
  unfold maxLen at hcm0
  have HV := hidH hv0
  have HRL := hidH (fun k hk n h1 hn => run_long (zs.drop k) (d : Int) (small_drop zs hs k hk) hd n h1 hn)
  obtain ⟨N, hN⟩ : ∃ N, N = zs.length + 1 := ⟨_, rfl⟩
  have HM := hidH (Blk.made w 3 N)
  have hmk := run_make_row' (P := Try.prog) 28 3 (.int .i64 0) 8 Try.underlying28 infoInt rfl .i64 .i64 N (by omega) (by omega) w
  have hn1 : (N : Int) = (zs.length : Int) + 1 := by omega
  rw [hn1] at hmk
  have HN := hidH hN
  clear hv0 hn1 hN
  go_enter Try.func72, Try.ntmps72
  go_wp2_with fail
  go_loopw [10] (fun i wr => ∃ k : Nat, k ≤ zs.length ∧ i = .int .i64 ((k : Int) - 1) ∧ Blk wr w.heap.size (fillZ (nxZ (d + 1) zs) zs.length k) ∧ Below w.heap.size w wr) (fun i _ => ((intOf i) + 1).toNat)
  case atStart => exact ⟨zs.length, Nat.le_refl _, rfl, by rw [fillZ_start, ← HN.out]; exact HM.out, (Below.refl _ _).alloc (Nat.le_refl _) _⟩
  case round =>
    obtain ⟨k, hk, rfl, hblk, hb⟩ := hrel
    have HBK := hidH hblk
    have HBq := hidH hb
    clear hblk hb
    cases k with
    | zero =>
      have hc : decide ((0 : Int) ≤ ((0 : Nat) : Int) - 1) = false := decide_eq_false (by omega)
      go_wp2_with fail
      go_ret
      exact ⟨_, rfl, HBK.out.row (Nat.le_refl _) HBK.out.1 (by show (fillZ (nxZ (d + 1) zs) zs.length 0).length ≤ _; rw [fillZ_length _ _ _ (by omega), HN.out]; exact Nat.le_refl _) (by have := HN.out; unfold maxLen; omega) (by show _ = (fillZ (nxZ (d + 1) zs) zs.length 0).length; rw [fillZ_length _ _ _ (by omega), HN.out]), HBq.out⟩
    | succ p =>
      have hp1 : ((p + 1 : Nat) : Int) - 1 = (p : Int) := by omega
      rw [hp1]
      have hpn : p < zs.length := by omega
      obtain ⟨cx, fx⟩ := HBK.out.2 p 0 (fillZ_low _ _ _ p (by omega))
      have hpl : p < N := by have := HN.out; omega
      have HLO := hidH (longN_pos (d + 1) (zs.drop p) (by omega) (by rw [List.length_drop]; omega))
      have HLE := hidH (longN_le (d + 1) (zs.drop p))
      rw [List.length_drop] at HLE
      have HNX := hidH (show nxZ (d + 1) zs p = p + longN (d + 1) (zs.drop p) from rfl)
      have HSTP := hidH (gN_step HF.out p hpn)
      have HRLp := hidH (HRL.out p hpn)
      rw [Int.toNat_natCast] at HRLp
      rw [HNX.out] at HSTP
      have HGL := hidH (fun i => gN_le HF.out _ i (Nat.le_refl _))
      have HMO := hidH (fun i j h => gN_mono HF.out i j h)
      generalize longN (d + 1) (zs.drop p) = L at *
      have h1 := HLO.out
      have h2 := HLE.out
      have HB1 := hidH (HBK.out.set p 1099511627776)
      have HB1w := hidH (HBq.out.setCell (p := ⟨w.heap.size, p, none⟩) (Nat.le_refl _) (.int .i64 1099511627776))
      have HVq := hidH (HV.out.below (HB1w.out))
      obtain ⟨wo, hwo⟩ : ∃ wo, wo = wr.setCell ⟨w.heap.size, p, none⟩ (.int .i64 1099511627776) := ⟨_, rfl⟩
      rw [← hwo] at HB1 HB1w HVq
      have HWO := hidH hwo
      clear hwo
      go_wp2_with fail
      rw [← HWO.out]
      go_loopw [11] (fun i wx => ∃ m : Nat, 1 ≤ m ∧ m ≤ L + 1 ∧ i = .int .i64 m ∧ Blk wx w.heap.size ((fillZ (nxZ (d + 1) zs) zs.length (p + 1)).set p (if m = 1 then 1099511627776 else 1 + ((gN (nxZ (d + 1) zs) zs.length (p + (m - 1)) : Nat) : Int))) ∧ Below w.heap.size w wx) (fun i _ => zs.length + 1 - (intOf i).toNat)
      case atStart => exact ⟨1, Nat.le_refl _, by omega, rfl, HB1.out, HB1w.out⟩
      case round =>
        obtain ⟨m, hm1, hmL, rfl, hblk, hb⟩ := hrel
        have HBm := hidH hblk
        have HBw := hidH hb
        clear hblk hb
        have HGLp := hidH (HGL.out p)
        obtain ⟨q, hpm, hq, hqp⟩ : ∃ q : Nat, (p : Int) + (m : Int) = (q : Int) ∧ q = p + m ∧ p < q := ⟨p + m, by omega, rfl, by omega⟩
        have HQ := hidH hq
        by_cases hle : q ≤ zs.length
        · have HVm := hidH ((HV.out.below HBw.out).dropped p (zs.length - p) (cap0 - p) (by omega) rfl rfl)
          have HVt := hidH (HVm.out.taken m (by rw [List.length_drop]; omega))
          have hrun := HRLp.out m hm1 (by rw [List.length_drop]; omega)
          have HRN := hidH hrun
          have hck : ¬ cap0 = p := by omega
          have hmk2 : q - p = m := by omega
          have hqc : q ≤ cap0 := by omega
          have hcn : (cap0 : Int) - p = ((cap0 - p : Nat) : Int) := by omega
          have hqm : p + (m + 1 - 1) = q := by omega
          have HQM := hidH hqm
          clear hrun hqm hq
          by_cases hml : m ≤ L
          · have HTR : Hid (runB ((zs.drop p).take m) (d : Int) = true) := by show _ = _; rw [HRN.out]; exact decide_eq_true hml
            go_wp2_with fail
            refine (sRun_any _ _ (d : Int) _ _ _ HVt.out).mono ?_; rintro e w5 ⟨v5, rfl, hr, hb⟩
            rw [HTR.out]
            have HB5 := hidH (HBm.out.below hb)
            have HB5w := hidH (bThen HBw.out hb)
            obtain ⟨pa, pcap, rfl⟩ := hr.some
            clear hb hr HBm HVm HVt HTR HRN
            generalize (runA ((zs.drop p).take m) (d : Int)).length = pl at *
            have hx0 : ((fillZ (nxZ (d + 1) zs) zs.length (p + 1)).set p (if m = 1 then 1099511627776 else 1 + ((gN (nxZ (d + 1) zs) zs.length (p + (m - 1)) : Nat) : Int)))[p]? = some (if m = 1 then 1099511627776 else 1 + ((gN (nxZ (d + 1) zs) zs.length (p + (m - 1)) : Nat) : Int)) := by
              rw [List.getElem?_set, if_pos rfl, if_pos (by rw [fillZ_length _ _ _ (by omega)]; omega)]
            have hx1 : ((fillZ (nxZ (d + 1) zs) zs.length (p + 1)).set p (if m = 1 then 1099511627776 else 1 + ((gN (nxZ (d + 1) zs) zs.length (p + (m - 1)) : Nat) : Int)))[q]? = some ((gN (nxZ (d + 1) zs) zs.length q : Nat) : Int) := by
              rw [List.getElem?_set, if_neg (by omega)]
              exact fillZ_high _ _ _ _ (by omega) hle
            obtain ⟨c0, f0⟩ := HB5.out.2 p _ hx0
            obtain ⟨c1, _⟩ := HB5.out.2 q _ hx1
            have hg1 := HGL.out q
            have hg0 := HGL.out (p + (m - 1))
            have hgm := HMO.out (p + (m - 1)) q (by have := HQ.out; omega)
            have hnew : (if m + 1 = 1 then 1099511627776 else 1 + ((gN (nxZ (d + 1) zs) zs.length (p + (m + 1 - 1)) : Nat) : Int)) = 1 + ((gN (nxZ (d + 1) zs) zs.length q : Nat) : Int) := by rw [if_neg (by omega), HQM.out]
            have hold : 1 + ((gN (nxZ (d + 1) zs) zs.length q : Nat) : Int) ≤ (if m = 1 then 1099511627776 else 1 + ((gN (nxZ (d + 1) zs) zs.length (p + (m - 1)) : Nat) : Int)) := by
              split <;> omega
            have hob : (if m = 1 then 1099511627776 else 1 + ((gN (nxZ (d + 1) zs) zs.length (p + (m - 1)) : Nat) : Int)) ≤ 1099511627776 := by split <;> omega
            have HNEW := hidH hnew
            clear hx0 hx1 hnew hg0 hgm
            generalize (if m = 1 then 1099511627776 else 1 + ((gN (nxZ (d + 1) zs) zs.length (p + (m - 1)) : Nat) : Int)) = old at *
            generalize gN (nxZ (d + 1) zs) zs.length q = gm at *
            have HST := hidH ((HB5.out.drewN 1).set p (1 + (gm : Int)))
            rw [set_twice] at HST
            have HSTw := hidH ((below_drewN HB5w.out 1).setCell (p := ⟨w.heap.size, p, none⟩) (Nat.le_refl _) (.int .i64 (1 + (gm : Int))))
            have hpl2 : q < N := by have := HN.out; omega
            have hw1 : IntKind.i64.wrap (1 + (gm : Int)) = 1 + (gm : Int) := IntWalk.i64_in _ (by omega)
            have hqw : IntKind.i64.wrap (q : Int) = (q : Int) := IntWalk.i64_in _ (by omega)
            by_cases hlt3 : 1 + (gm : Int) < old
            · skip
              go_wp2_with fail
              go_still_tail 21, (by kernel_rfl)
              change wpList _ _ _ _ _ w5.drew
              go_wp2_with fail
              go_roundw
              case rel => exact ⟨m + 1, by omega, by omega, by go_num, by rw [HNEW.out]; exact HST.out, HSTw.out⟩
              case measure => simp [intOf]; omega
            · obtain rfl : old = 1 + (gm : Int) := by omega
              go_wp2_with fail
              go_still_tail 21, (by kernel_rfl)
              change wpList _ _ _ _ _ w5.drew
              go_wp2_with fail
              go_roundw
              case rel => exact ⟨m + 1, by omega, by omega, by go_num, by rw [HNEW.out]; exact HST.out, HSTw.out⟩
              case measure => simp [intOf]; omega
          · have hm : m = L + 1 := by omega
            have HTR : Hid (runB ((zs.drop p).take m) (d : Int) = false) := by show _ = _; rw [HRN.out]; exact decide_eq_false hml
            have hfin : (if m = 1 then 1099511627776 else 1 + ((gN (nxZ (d + 1) zs) zs.length (p + (m - 1)) : Nat) : Int)) = ((gN (nxZ (d + 1) zs) zs.length p : Nat) : Int) := by
              rw [if_neg (by omega), show p + (m - 1) = p + L by omega]
              have := HSTP.out
              omega
            clear hm
            go_wp2_with fail
            refine (sRun_any _ _ (d : Int) _ _ _ HVt.out).mono ?_; rintro e w5 ⟨v5, rfl, hr, hb⟩
            rw [HTR.out]
            have HB5 := hidH (HBm.out.below hb)
            have HB5w := hidH (bThen HBw.out hb)
            clear hb hr HBm HVm HVt HTR HRN
            have HFS := hidH (fillZ_set (nxZ (d + 1) zs) zs.length p (by omega))
            have HEQ := hidH hfin
            clear hfin
            go_wp2_with fail
            go_roundw
            case rel => exact ⟨p, by omega, by go_num, by rw [← HFS.out, ← HEQ.out]; exact HB5.out, HB5w.out⟩
            case measure => simp [intOf]
        · have hm : m = L + 1 := by omega
          have hfin : (if m = 1 then 1099511627776 else 1 + ((gN (nxZ (d + 1) zs) zs.length (p + (m - 1)) : Nat) : Int)) = ((gN (nxZ (d + 1) zs) zs.length p : Nat) : Int) := by
            rw [if_neg (by omega), show p + (m - 1) = p + L by omega]
            have := HSTP.out
            omega
          clear hm hq
          have HFS := hidH (fillZ_set (nxZ (d + 1) zs) zs.length p (by omega))
          have HEQ := hidH hfin
          clear hfin
          go_wp2_with fail
          go_roundw
          case rel => exact ⟨p, by omega, by go_num, by rw [← HFS.out, ← HEQ.out]; exact HBm.out, HBw.out⟩
          case measure => simp [intOf]
end Go.Proofs.Ytgnoclnenhmakaa
namespace Go.Proofs.Ytgnoclnenhmakaa
set_option maxRecDepth 4000
open Go.RowKit
end Go.Proofs.Ytgnoclnenhmakaa
