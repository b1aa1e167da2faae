/-
  The walk of the law of ReadStereotype. Condition: bytes that can come in.
-/
import Derived.Test.YtgafhkjcdddhcaaDoorLnyB
import Derived.BigQuiet
namespace Go.Proofs.YtgafhkjcdddhcaaDoor
set_option maxRecDepth 4000
open Go.RowKit
theorem deTexts_yes (v u : Value) (zs : List ByteArray) (w : World) (l1 h1 l2 h2 : Nat) (hv : LiesS w l1 h1 v zs) (hu : LiesS w l2 h2 u zs) : Calls Tryd.prog 17 #[v, u] w (Gives (.bool true) w) := by
  obtain ⟨a, cap, rfl, hlc, hcm, hnil, hcell⟩ := hv
  obtain ⟨a2, cap2, rfl, hlc2, hcm2, hnil2, hcell2⟩ := hu
  unfold maxLen at hcm hcm2
  have HC := hidH hcell
  have HC2 := hidH hcell2
  clear hcell hnil hcell2 hnil2
  go_enter Tryd.func17, Tryd.ntmps17
  go_wp2
  go_loopw [5] (fun i wr => ∃ k : Nat, k ≤ zs.length ∧ i = .int .i64 k ∧ Below w.heap.size w wr) (fun i _ => zs.length - (intOf i).toNat)
  case atStart => exact ⟨0, Nat.zero_le _, rfl, Below.refl _ _⟩
  case round =>
    obtain ⟨k, hk, rfl, hb⟩ := hrel
    have Hb := hidH hb
    clear hb
    by_cases hlt : k < zs.length
    · obtain ⟨z, hz⟩ := get_lt zs k hlt
      obtain ⟨b, off, rfl, _, _, hc⟩ := HC.out k z hz
      obtain ⟨b2, off2, rfl, _, _, hc2⟩ := HC2.out k z hz
      have hcw : wr.cell? ⟨b, off + k, none⟩ = some (.string z) := by rw [Hb.out.cell (p := ⟨b, off + k, none⟩) (cell_blk _ _ _ hc)]; exact hc
      have hcw2 : wr.cell? ⟨b2, off2 + k, none⟩ = some (.string z) := by rw [Hb.out.cell (p := ⟨b2, off2 + k, none⟩) (cell_blk _ _ _ hc2)]; exact hc2
      clear hz hc hc2
      go_wp2
      go_quiet (fail)
      go_wp2
      go_roundw
      case rel => exact ⟨k + 1, by omega, by go_num, below_drewN Hb.out _⟩
      case measure => simp [intOf]; omega
    · obtain rfl : k = zs.length := by omega
      go_wp2
      go_ret
      exact ⟨rfl, Hb.out⟩
theorem rdL_len (cs : List ByteArray) : (rdL cs).length ≤ cs.length := by
  unfold rdL
  split
  · unfold unP; rw [List.length_map]; exact Nat.le_refl _
  · exact Nat.zero_le _
theorem rdOk_lines {cs : List ByteArray} (h : rdOk cs = true) : linesOk (rdL cs) = true ∧ plaL (rdL cs) = cs := by
  have e : rdL cs = unP cs := by rw [rdL, if_pos h]
  rw [e]
  refine ⟨?_, of_decide_eq_true h⟩
  cases hl : linesOk (unP cs)
  · rw [rdOk_bad cs hl] at h; cases h
  · rfl
theorem rdL_size {cs : List ByteArray} {n : Nat} (h : ∀ z ∈ cs, z.size ≤ n) : ∀ z ∈ rdL cs, z.size ≤ n := by
  intro z hz
  unfold rdL at hz
  split at hz
  · obtain ⟨s, hs, rfl⟩ := List.mem_map.1 hz
    exact Nat.le_trans (unB_size s) (h s hs)
  · simp at hz
set_option maxHeartbeats 1600000 in
theorem lawReadStereotype (a : Option Addr) (len cap : Nat) (w : World) (hc : Came w a len cap) : Calls Tryd.prog 8 #[.slice a len cap] w (Gives (.bool true) w) := by
  have HC := hidH hc
  have hc1 := hc.lenLe
  have hc2 := hc.capLe
  unfold maxLen at hc2
  by_cases hbig : 1048576 < len
  · go_enter Tryd.func8, Tryd.ntmps8
    go_wp2
    go_ret
    exact ⟨rfl, Below.refl _ _⟩
  have hsm : len ≤ 1048576 := by omega
  clear hbig hc
  go_enter Tryd.func8, Tryd.ntmps8
  go_wp2_with fail
  refine (drawRS_any a len cap w HC.out hsm).mono ?_; rintro e w1 ⟨v, zs, rfl, hr, hz6, hzz, hb⟩
  have P1 := hidH hr
  have B1 := hidH hb
  have HZ := hidH hzz
  have HR := hidH (fun W lo hi (h : LiesS W lo hi v zs) => readSt_any v zs W lo hi h (fun c hc => by have := hzz c hc; omega) (by omega))
  have HS := hidH (fun W lo hi (h : LiesS W lo hi v zs) => sReadSt_any v zs W lo hi h (fun c hc => by have := hzz c hc; omega) (by omega))
  have HRZ := hidH (rdL_size hzz)
  have HOK := hidH (rdOk_lines (cs := zs))
  have hlen := rdL_len zs
  clear hr hb hzz
  generalize hF : rdL zs = F at *
  clear hF
  generalize rdOk zs = rk at *
  go_wp2_with fail
  refine (HR.out _ _ _ P1.out.lies).mono ?_; rintro e w2 ⟨g, rfl, hr, hb⟩
  have G2 := hidH hr
  have P2 := hidH (P1.out.below hb)
  have B2 := hidH (bThen B1.out hb)
  clear hr hb P1 B1
  go_wp2_with fail
  refine (HS.out _ _ _ P2.out.lies).mono ?_; rintro e w3 ⟨u, rfl, hr, hb⟩
  have U3 := hidH hr
  have G3 := hidH (G2.out.below hb)
  have P3 := hidH (P2.out.below hb)
  have B3 := hidH (bThen B2.out hb)
  clear hr hb P2 G2 B2
  go_wp2_with fail
  refine (deTexts_yes _ _ F _ _ _ _ _ G3.out.lies U3.out.lies).mono ?_; rintro e w4 ⟨rfl, hb⟩
  have U4 := hidH (U3.out.below hb)
  have G4 := hidH (G3.out.below hb)
  have P4 := hidH (P3.out.below hb)
  have B4 := hidH (bThen B3.out hb)
  clear hb U3 G3 P3 B3
  cases rk
  · go_wp2_with fail
    refine (deTexts_yes _ _ F _ _ _ _ _ G4.out.lies U4.out.lies).mono ?_; rintro e w5 ⟨rfl, hb⟩
    have B5 := hidH (bThen B4.out hb)
    clear hb
    go_wp2_with fail
    go_ret
    exact ⟨rfl, B5.out⟩
  · obtain ⟨hl1, hl2⟩ := HOK.out rfl
    have HST := hidH (fun W lo hi (h : LiesS W lo hi g F) => stereo_any g F W lo hi h (fun c hc => by have := HRZ.out c hc; omega))
    have HLV := hidH (fun W lo hi (h : LiesS W lo hi g F) => linesValid_any g F W lo hi h (fun c hc => by have := HRZ.out c hc; omega))
    rw [hl2] at HST
    rw [hl1] at HLV
    clear hl1 hl2 HOK
    go_wp2_with fail
    refine (HST.out _ _ _ G4.out.lies).mono ?_; rintro e w5 ⟨t, rfl, hr, hb⟩
    have T5 := hidH hr
    have G5 := hidH (G4.out.below hb)
    have P5 := hidH (P4.out.below hb)
    have B5 := hidH (bThen B4.out hb)
    clear hr hb G4 P4 U4 B4
    go_wp2_with fail
    refine (deTexts_yes _ _ zs _ _ _ _ _ T5.out.lies P5.out.lies).mono ?_; rintro e w6 ⟨rfl, hb⟩
    have G6 := hidH (G5.out.below hb)
    have B6 := hidH (bThen B5.out hb)
    clear hb G5 P5 T5 B5
    go_wp2_with fail
    refine (HLV.out _ _ _ G6.out.lies).mono ?_; rintro e w7 ⟨rfl, hb⟩
    have B7 := hidH (bThen B6.out hb)
    clear hb
    go_wp2_with fail
    go_ret
    exact ⟨rfl, B7.out⟩
end Go.Proofs.YtgafhkjcdddhcaaDoor
