/-
  GreedyPlan: the model. No conditions but that slices fit in memory.
-/
import Derived.Test.YtpkieconbfgbdaaPlfT
import Derived.Test.YtpkieconbfgbdaaPlfB
namespace Go.Proofs.Ytpkieconbfgbdaa
set_option maxRecDepth 4000
open Go.RowKit
theorem greedyG_small (zs : List Int) (d : Int) : (greedyG zs d).length ≤ 60 := by
  unfold greedyG
  split
  · rename_i h
    rw [Bool.and_eq_true] at h
    have := (small_iff zs).1 h.1
    rw [plG_len]
    have := gN_le (nxZ_fwd (d.toNat + 1) zs (by omega)) _ 0 (Nat.le_refl _)
    omega
  · simp
theorem plF_poly (zs : List Int) (d f i : Nat) (c : Int) (ys : List Int) (h : (c, ys) ∈ plF zs d f i) : ys.length ≤ 1048576 := by
  induction f generalizing i with
  | zero => cases h
  | succ f ih =>
    rw [plF] at h
    split at h
    · rcases List.mem_cons.1 h with e | e
      · injection e with e1 e2
        rw [e2]
        exact segP_len _ _ _ _
      · exact ih _ e
    · cases h
theorem greedyG_poly (zs : List Int) (d : Int) : ∀ c ys, (c, ys) ∈ greedyG zs d → ys.length ≤ 1048576 := by
  intro c ys h
  unfold greedyG at h
  split at h
  · exact plF_poly _ _ _ _ _ _ h
  · cases h
/-- The polynomial of a longest run is the one of its segment. -/
theorem seg_runA (zs : List Int) (d k : Nat) (hs : smallOk zs = true) (hd : degOk (d : Int) = true) (hk : k < zs.length) : segP zs (k : Int) (longN (d + 1) (zs.drop k) : Nat) (d : Int) = runA ((zs.drop k).take (longN (d + 1) (zs.drop k))) (d : Int) := by
  have hp := longN_pos (d + 1) (zs.drop k) (by omega) (by rw [List.length_drop]; omega)
  have hl := longN_le (d + 1) (zs.drop k)
  rw [List.length_drop] at hl
  have hr := run_long (zs.drop k) (d : Int) (small_drop zs hs k hk) hd (longN (d + 1) (zs.drop k)) hp (by rw [List.length_drop]; exact hl)
  rw [Int.toNat_natCast] at hr
  have hr' : runB ((zs.drop k).take (longN (d + 1) (zs.drop k))) (d : Int) = true := by rw [hr]; exact decide_eq_true (Nat.le_refl _)
  have h1 : segAt zs (k : Int) = true := decide_eq_true (by omega)
  have h2 : segCnt zs (k : Int) (longN (d + 1) (zs.drop k) : Nat) = true := decide_eq_true (by omega)
  have hz : segZ zs (k : Int) (longN (d + 1) (zs.drop k) : Nat) = (zs.drop k).take (longN (d + 1) (zs.drop k)) := by
    unfold segZ
    rw [Int.toNat_natCast, Int.toNat_natCast]
  have hl2 : leastL ((zs.drop k).take (longN (d + 1) (zs.drop k))) ≤ (d : Int) := by
    unfold runB at hr'
    rw [Bool.and_eq_true, decide_eq_true_eq] at hr'
    exact hr'.1
  unfold segP segB runA
  rw [hs, h1, h2, hd, hz, hr', if_pos hl2]; rfl
theorem Lies.none (w : World) (lo hi : Nat) (a : Option Addr) (cap : Nat) (hc : cap ≤ maxLen) (h : a = Option.none → cap = 0) : Lies w lo hi (.slice a 0 cap) [] := ⟨a, cap, rfl, Nat.zero_le _, hc, h, fun _ _ h => by simp at h⟩
set_option maxHeartbeats 3200000 in
theorem sRawGreedy_any (v0 : Value) (zs : List Int) (n : Int) (w : World) (lo0 hi0 : Nat) (hv0 : Lies w lo0 hi0 v0 zs) : Calls Try.prog 26 #[v0, .int .i64 n] w (NewApB (greedyG zs n) (smallOk zs && degOk n) w) := by
  have HV := hidH hv0.top
  obtain ⟨a0, cap0, rfl, hlc0, hcm0, hnil0, hcell0⟩ := hv0
  unfold maxLen at hcm0
  clear hnil0 hcell0
  have HG1 := hidH (greedyG_no1 zs n)
  have HG2 := hidH (greedyG_no2 zs n)
  have HG3 := hidH (greedyG_yes zs n)
  obtain ⟨i0, hif0, hz0, hz1, hz2⟩ := info_parts info_sg
  have BB := hidH ((Below.refl w.heap.size w).alloc (Nat.le_refl _) (.cells #[] 46))
  have HV1 := hidH (HV.out.below BB.out)
  have HO := hidH (World.ownsRow_made (base := w.heap.size) (e := 46) (size := 2) w #[] 0 (Nat.le_refl _) (Nat.zero_le _) rfl)
  cases hs : smallOk zs
  · have HS := hidH hs
    rw [Bool.false_and]
    clear hs
    go_enter Try.func26, Try.ntmps26
    go_wp2_with fail
    refine (sSmall_any _ zs _ _ _ HV1.out).mono ?_; rintro e w2 ⟨rfl, hb⟩
    rw [HS.out]
    have HB := hidH (bThen BB.out hb)
    have hs2 := hb.size
    clear hb
    go_wp2_with fail
    go_ret2
    rw [HG1.out HS.out]
    exact ⟨_, rfl, ApSg.nil _ _ _ _ 0 (Nat.zero_le _) (fun _ => rfl), HB.out⟩
  · have HS := hidH hs
    rw [Bool.true_and]
    clear hs
    cases hd : degOk n
    · have HD := hidH hd
      clear hd
      go_enter Try.func26, Try.ntmps26
      go_wp2_with fail
      refine (sSmall_any _ zs _ _ _ HV1.out).mono ?_; rintro e w2 ⟨rfl, hb⟩
      rw [HS.out]
      have HB := hidH (bThen BB.out hb)
      clear hb
      go_wp2_with fail
      refine (sDeg4_any n _).mono ?_; rintro e w3 ⟨rfl, rfl⟩
      rw [HD.out]
      go_wp2_with fail
      go_ret2
      rw [HG2.out HD.out]
      exact ⟨_, rfl, ApSg.nil _ _ _ _ 0 (Nat.zero_le _) (fun _ => rfl), HB.out⟩
    · have HD := hidH hd
      obtain ⟨d, rfl⟩ : ∃ d : Nat, n = (d : Int) := ⟨n.toNat, by unfold degOk at hd; have := of_decide_eq_true hd; omega⟩
      clear hd
      have ⟨hl1, hl60, _⟩ := (small_iff zs).1 HS.out
      have HRL := hidH (fun k hk n h1 hn => run_long (zs.drop k) (d : Int) (small_drop zs HS.out k hk) HD.out n h1 hn)
      have HSP := hidH (fun k hk => seg_runA zs d k HS.out HD.out hk)
      go_enter Try.func26, Try.ntmps26
      go_wp2_with fail
      refine (sSmall_any _ zs _ _ _ HV1.out).mono ?_; rintro e w2 ⟨rfl, hb⟩
      rw [HS.out]
      have HB := hidH (bThen BB.out hb)
      have HV2 := hidH (HV1.out.below hb)
      have HO2 := hidH (owns_below HO.out hb)
      have HMM := hidH (show w.heap.size ≤ w2.heap.size by have := hb.size; simp at this; omega)
      clear hb
      go_wp2_with fail
      refine (sDeg4_any (d : Int) _).mono ?_; rintro e w3 ⟨rfl, rfl⟩
      rw [HD.out]
      go_wp2_with fail
      go_loopw [0, 6] (fun v o wr => ∃ (j k m : Nat) (vv ov : Value) (xs : List Value) (cs : List (Int × List Int)), j ≤ zs.length ∧ vv = v ∧ ov = o ∧ k ≤ j ∧ Aside (cs.length = k ∧ cs ++ plG zs d j = plG zs d 0) ∧ wr.ownsRow w.heap.size 46 2 ov k xs ∧ InSg wr w.heap.size m ov xs cs ∧ Lies wr 0 w.heap.size vv (zs.drop j) ∧ Below w.heap.size w wr) (fun v _ _ => match v with | .slice _ n _ => n | _ => 0)
      case atStart => exact ⟨0, 0, w.heap.size, _, _, [], [], Nat.zero_le _, rfl, rfl, Nat.le_refl _, ⟨rfl, rfl⟩, HO2.out, InSg.nil _ _ _ _ HMM.out, HV2.out, HB.out⟩
      case round =>
        obtain ⟨j, k, m, vv, ov, xs, cs, hj, rfl, rfl, hkj, hg, hown, hin, hlv, hb⟩ := hrel
        have HG := hidH hg
        have HW := hidH hown
        have HI := hidH hin
        have HBq := hidH hb
        clear hg hown hin hb
        by_cases hlt : j < zs.length
        · have hyl : (zs.drop j).length = zs.length - j := List.length_drop
          obtain ⟨b, off, cap1, rfl, hlc1, hcm1, _, _, _, _⟩ := hlv.addr (by omega)
          unfold maxLen at hcm1
          have HVr := hidH hlv
          have HRLj := hidH (HRL.out j hlt)
          have HSPj := hidH (HSP.out j hlt)
          have hp1 := longN_pos (d + 1) (zs.drop j) (by omega) (by omega)
          have hp2 := longN_le (d + 1) (zs.drop j)
          have HST := hidH (plG_step zs d j hlt)
          have HNX := hidH (show nxZ (d + 1) zs j = j + longN (d + 1) (zs.drop j) from rfl)
          rw [Int.toNat_natCast] at HRLj
          have HLG := hidH (fun W (hb : Below wr.heap.size wr W) => sLong_any b off cap1 (zs.drop j) d W _ _ (HVr.out.below hb) hlc1 (by omega) HRLj.out)
          have HDD := hidH (show ∀ q, (zs.drop j).drop q = zs.drop (j + q) from fun q => by rw [List.drop_drop])
          generalize longN (d + 1) (zs.drop j) = cn at *
          generalize zs.drop j = ys at *
          clear hlv HRLj
          have hmn : ys.length - cn < ys.length := by omega
          have hy60 : ys.length ≤ 60 := by omega
          have hy0 : 0 < ys.length := by omega
          have hjc : j + cn ≤ zs.length := by omega
          have HYL := hidH hyl
          clear hyl
          go_wp2_with fail
          refine (HLG.out _ (Below.refl _ _)).mono ?_; rintro e w4 ⟨rfl, hb⟩
          have HV4 := hidH (HVr.out.below hb)
          have HVt := hidH (HV4.out.taken cn hp2)
          have HW4 := hidH (owns_below HW.out hb)
          have HI4 := hidH (HI.out.below hb)
          have HB4 := hidH (bThen HBq.out hb)
          have HOL := hidH (fun g hg => (HW4.out.lt g hg).2)
          have HMI := hidH HI4.out.2.1
          have HBS := hidH HB4.out.size
          clear hb HLG HW HI HVr
          have hcc : cn ≤ cap1 := by omega
          go_wp2_with fail
          refine (sRun_any _ _ (d : Int) _ _ _ HVt.out).mono ?_; rintro e w5 ⟨v5, rfl, hr, hb⟩
          rw [← HSPj.out] at hr
          have HRP := hidH hr
          have HV5 := hidH (HV4.out.below hb)
          have HW5 := hidH (owns_below HW4.out hb)
          have HI5 := hidH (HI4.out.below hb)
          have HB5 := hidH (bThen HB4.out hb)
          have HS5 := hidH hb.size
          obtain ⟨pa, pcap, rfl⟩ := hr.some
          generalize hpl : (segP zs (j : Int) (cn : Int) (d : Int)).length = pl at *
          have HPL := hidH hpl
          have hk60 : k ≤ 60 := by omega
          clear hb hr hpl HW4 HI4 HV4 HVt
          have hB6 : Below w5.heap.size w5 (w5.alloc (.cells #[.int .i64 (cn : Int), .slice pa pl pcap] 46)) := (Below.refl _ w5).alloc (Nat.le_refl _) _
          have HW6 := hidH (owns_below HW5.out hB6)
          have HI6 := hidH (HI5.out.below hB6)
          have HRP6 := hidH (HRP.out.below hB6)
          have HV6 := hidH (HV5.out.below hB6)
          have HS6 := hidH hB6.size
          have HB6 := hidH (bMore HB5.out (.cells #[.int .i64 (cn : Int), .slice pa pl pcap] 46))
          have HNW := hidH (World.news_of_block (cs := #[.int .i64 (cn : Int), .slice pa pl pcap]) (t := 46) (fr := (0, 0)) (heap_alloc_new w5 (.cells #[.int .i64 (cn : Int), .slice pa pl pcap] 46)))
          have hs5 := HB5.out.size
          clear hB6 HW5 HI5 HRP HV5
          go_wp2_with (at_builtin; refine wpList_append_lies _ rfl _ _ 23 rfl w.heap.size 46 i0 _ 2 32 Try.underlying23 hif0 hz0 hz1 hz2 rfl (by decide) _ _ _ rfl HW6.out ⟨w5.heap.size, 0, none⟩ 1 1 [.int .i64 (cn : Int), .slice pa pl pcap] rfl rfl HNW.out (by simp [Value.oneCell']) (by decide) (by unfold maxLen; omega) (by omega) (by simp; omega) _ rfl ?_)
          intro g9 cap9 w9 hown1 hgrow hat hlt9
          have HI9 := hidH (HI6.out.snoc (ov' := .slice (some ⟨g9, 0, none⟩) (k + 1) cap9) (c := (cn : Int)) hgrow hgrow.size rfl (hat.imp id (fun h => by rw [h]; simp)) HRP6.out HMI.out HS5.out HS6.out HBS.out (fun g hg => HOL.out g hg))
          have HR9 := hidH hown1
          have hBl : Below w.heap.size (w5.alloc (.cells #[.int .i64 (cn : Int), .slice pa pl pcap] 46)) w9 := (Below.refl _ _).grown hgrow (by simp; omega) fun g hg => (HW6.out.lt g hg).1
          have HB9 := hidH (HB6.out.trans hBl)
          have HV9 := hidH (HV6.out.grown hgrow (fun g hg => .inr (HW6.out.lt g hg).1))
          clear hown1 hgrow hat hlt9 hBl
          have hyl2 := HYL.out
          have HREL := hidH (show (cs ++ [((cn : Int), segP zs (j : Int) (cn : Int) (d : Int))]).length = k + 1 ∧ cs ++ [((cn : Int), segP zs (j : Int) (cn : Int) (d : Int))] ++ plG zs d (j + cn) = plG zs d 0 by
            obtain ⟨h1, h2⟩ := HG.out.out
            rw [HST.out, HNX.out] at h2
            exact ⟨by simp [h1], by rw [← h2]; simp⟩)
          have HLN := hidH (show (ys.drop cn).length = ys.length - cn from List.length_drop)
          clear hyl2
          by_cases hce : cap1 = cn
          · subst hce
            have hye : ys.length = cap1 := by omega
            have HYE := hidH hye
            have HN9 := hidH (show ys.drop cap1 = [] from List.drop_eq_nil_of_le (by omega))
            clear hye
            go_wp2_with fail
            go_roundw
            case rel =>
              refine ⟨j + cap1, k + 1, _, _, _, _, _, by omega, rfl, rfl, by omega, HREL.out, HR9.out, HI9.out, ?_, HB9.out⟩
              rw [← HDD.out, HN9.out]
              exact Lies.none _ _ _ _ _ (Nat.zero_le _) (fun _ => rfl)
            case measure => (show 0 < ys.length; exact hy0)
          · have HD9 := hidH (HV9.out.dropped cn (ys.length - cn) (cap1 - cn) hp2 rfl rfl)
            have hcn1 : (ys.length : Int) - cn = ((ys.length - cn : Nat) : Int) := by omega
            have hcn2 : (cap1 : Int) - cn = ((cap1 - cn : Nat) : Int) := by omega
            go_wp2_with fail
            go_roundw
            case rel =>
              refine ⟨j + cn, k + 1, _, _, _, _, _, by omega, rfl, rfl, by omega, HREL.out, HR9.out, HI9.out, ?_, HB9.out⟩
              rw [← HDD.out]
              exact HD9.out
            case measure => (show ys.length - cn < ys.length; exact hmn)
        · obtain rfl : j = zs.length := by omega
          obtain ⟨hg1, hg2⟩ := HG.out
          rw [plG_end _ _ _ (Nat.le_refl _), List.append_nil] at hg2
          have HGN := hidH hg2
          have HAP := hidH (HI.out.ap HW.out)
          rw [List.drop_length] at hlv
          obtain ⟨a9, cap9, rfl, _, _, _, _⟩ := hlv
          clear hg1 hg2 HG
          go_wp2_with fail
          go_ret2
          rw [HG3.out HS.out HD.out, Int.toNat_natCast, ← HGN.out]
          exact ⟨_, rfl, HAP.out, HBq.out⟩
theorem sGreedyW_any (v0 : Value) (zs : List Int) (n : Int) (w : World) (lo0 hi0 : Nat) (hv0 : Lies w lo0 hi0 v0 zs) : Calls Try.prog 8 #[v0, .int .i64 n] w (NewApB (greedyG zs n) (smallOk zs && degOk n) w) := by
  have HR := hidH (sRawGreedy_any v0 zs n w lo0 hi0 hv0)
  have HL := hidH (greedyG_small zs n)
  have HP := hidH (greedyG_poly zs n)
  clear hv0
  generalize greedyG zs n = cs at *
  generalize (smallOk zs && degOk n) = tb at *
  go_enter Try.func8, Try.ntmps8
  go_wp2_with fail
  refine HR.out.mono ?_; rintro e w2 ⟨u, rfl, hr, hb⟩
  have HB := hidH hb
  have HRR := hidH hr
  clear hb hr
  go_wp2_with fail
  refine (ownSgs_any u cs w2 _ HRR.out.lies (by have := HL.out; omega) HP.out).mono ?_; rintro e w3 ⟨u3, rfl, hr, hb⟩
  have HB3 := hidH (bThen HB.out hb)
  have HR3 := hidH (hr.mono HB.out.size (Nat.le_refl _))
  clear hb hr
  go_wp2_with fail
  go_ret2
  exact ⟨_, rfl, HR3.out, HB3.out⟩
end Go.Proofs.Ytpkieconbfgbdaa
