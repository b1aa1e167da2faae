/-
  The walk of a law: exactly the numbers of entries that are not greater than the longest run have a run. No conditions but that the bytes that came in can be read.
-/
import Derived.Test.YtgdfbnedaalflaaPlanG
import Derived.Test.YtgdfbnedaalflaaPlanB
namespace Go.Proofs.Ytgdfbnedaalflaa
set_option maxRecDepth 4000
open Go.RowKit
theorem deRun_any (v : Value) (zs : List Int) (d : Int) (w : World) (lo hi : Nat) (hv : Lies w lo hi v zs) (hs : smallOk zs = true) : Calls Try.prog 10 #[v, .int .i64 d] w (Gives (.bool (runB zs d)) w) := by
  have HV := hidH hv
  have hg := least_ge zs
  have hg1 := hg.2.2.1 (small_tab zs hs)
  have hg2 := hg.2.1
  have HRB := hidH (show runB zs d = (decide (leastL zs ≤ d) && interB zs) from rfl)
  rw [HRB.out]
  clear hv hs hg
  have HLS := hidH (fun W h => least_any v zs W lo hi h)
  have HIN := hidH (fun W h => inter_any v zs W lo hi h)
  generalize leastL zs = l at *
  generalize interB zs = q at *
  by_cases hl : l ≤ d
  · rw [decide_eq_true hl, Bool.true_and]
    go_enter Try.func10, Try.ntmps10
    go_wp2_with fail
    refine (HLS.out _ HV.out).mono ?_; rintro e w1 ⟨rfl, hb⟩
    have B1 := hidH hb
    have HV1 := hidH (HV.out.below hb)
    clear hb
    go_wp2_with fail
    refine (HIN.out _ HV1.out).mono ?_; rintro e w2 ⟨u, rfl, hr, hb⟩
    have B2 := hidH (B1.out.trans (hb.mono B1.out.size))
    clear hb hr
    go_wp2_with fail
    go_ret
    exact ⟨rfl, B2.out⟩
  · rw [decide_eq_false hl, Bool.false_and]
    go_enter Try.func10, Try.ntmps10
    go_wp2_with fail
    refine (HLS.out _ HV.out).mono ?_; rintro e w1 ⟨rfl, hb⟩
    have B1 := hidH hb
    have HV1 := hidH (HV.out.below hb)
    clear hb
    go_wp2_with fail
    refine (HIN.out _ HV1.out).mono ?_; rintro e w2 ⟨u, rfl, hr, hb⟩
    have B2 := hidH (B1.out.trans (hb.mono B1.out.size))
    clear hb hr
    go_wp2_with fail
    go_ret
    exact ⟨rfl, B2.out⟩
set_option maxHeartbeats 2000000 in
theorem lawLongestRun (a : Option Addr) (len cap : Nat) (w : World) (hc : Came w a len cap) : Calls Try.prog 3 #[.slice a len cap] w (Gives (.bool true) w) := by
  have hcap := hc.lenLe
  have hcap2 := hc.capLe
  unfold maxLen at hcap2
  by_cases hbig : 1048576 < len
  · clear hc
    go_enter Try.func3, Try.ntmps3
    go_wp2
    go_ret
    exact ⟨rfl, Below.refl _ _⟩
  · have HD := hidH (drawLongestRun a len cap w hc (by omega))
    clear hc
    go_enter Try.func3, Try.ntmps3
    go_wp2_with fail
    refine HD.out.mono ?_
    rintro e w1 ⟨v, zs, f, d, rfl, hv, h61, d1, d7, hB⟩
    have V_1 := hidH hv
    have B1 := hidH hB
    have C1 := hidH (Below.refl w1.heap.size w1)
    obtain ⟨av, cv, rfl, hlv, hcv, _, hcellv⟩ := hv
    unfold maxLen at hcv
    clear hB HD hcellv
    cases hok : (smallOk zs && (degOk d && fromOk zs f))
    · have HA := hidH (show runAns zs f d = -1 by unfold runAns; rw [hok]; rfl)
      clear hok
      go_wp2_with fail
      refine (lrun_any (.slice av zs.length cv) zs f d w1 _ _ V_1.out).mono ?_; rintro e w2 ⟨rfl, hb⟩
      have B2 := hidH (B1.out.trans (hb.mono B1.out.size))
      have C2 := hidH (C1.out.trans (hb.mono C1.out.size))
      have V_2 := hidH (V_1.out.below hb)
      clear hb B1 C1 V_1
      rw [HA.out]
      go_wp2_with fail
      refine (sLrun_any (.slice av zs.length cv) zs f d w2 _ _ V_2.out).mono ?_; rintro e w3 ⟨rfl, hb⟩
      have B3 := hidH (B2.out.trans (hb.mono B2.out.size))
      have C3 := hidH (C2.out.trans (hb.mono C2.out.size))
      have V_3 := hidH (V_2.out.below hb)
      clear hb B2 C2 V_2
      rw [HA.out]
      go_wp2_with fail
      refine (sLrun_any (.slice av zs.length cv) zs f d w3 _ _ V_3.out).mono ?_; rintro e w4 ⟨rfl, hb⟩
      have B4 := hidH (B3.out.trans (hb.mono B3.out.size))
      have C4 := hidH (C3.out.trans (hb.mono C3.out.size))
      have V_4 := hidH (V_3.out.below hb)
      clear hb B3 C3 V_3
      rw [HA.out]
      go_wp2_with fail
      go_ret
      exact ⟨rfl, B4.out⟩
    · have hok2 := hok
      rw [Bool.and_eq_true, Bool.and_eq_true] at hok2
      obtain ⟨hs, hd, hf⟩ := hok2
      have ⟨f0, f1⟩ := of_decide_eq_true hf
      have ⟨d0, d6⟩ := of_decide_eq_true hd
      have ⟨z1, z60, _⟩ := (small_iff zs).1 hs
      obtain ⟨k0, rfl⟩ : ∃ k : Nat, f = (k : Int) := ⟨f.toNat, by omega⟩
      obtain ⟨dn, rfl⟩ : ∃ k : Nat, d = (k : Int) := ⟨d.toNat, by omega⟩
      have HA := hidH (show runAns zs (k0 : Int) (dn : Int) = (longN (dn + 1) (zs.drop k0) : Nat) by unfold runAns; rw [hok, if_pos rfl, Int.toNat_natCast, Int.toNat_natCast])
      have hLle := longN_le (dn + 1) (zs.drop k0)
      rw [List.length_drop] at hLle
      have HRL := hidH (fun (q : Nat) (h1 : 1 ≤ q) (h2 : q ≤ zs.length - k0) => show smallOk ((zs.drop k0).take q) = true ∧ runB ((zs.drop k0).take q) dn = decide (q ≤ longN (dn + 1) (zs.drop k0)) from by
        have hsd := small_drop zs hs k0 (by omega)
        have := run_long (zs.drop k0) (dn : Int) hsd hd q h1 (by rw [List.length_drop]; exact h2)
        rw [Int.toNat_natCast] at this
        exact ⟨small_take _ hsd q h1, this⟩)
      clear hok hs hd hf f0 d0
      generalize longN (dn + 1) (zs.drop k0) = L at *
      go_wp2_with fail
      refine (lrun_any (.slice av zs.length cv) zs k0 dn w1 _ _ V_1.out).mono ?_; rintro e w2 ⟨rfl, hb⟩
      have B2 := hidH (B1.out.trans (hb.mono B1.out.size))
      have C2 := hidH (C1.out.trans (hb.mono C1.out.size))
      have V_2 := hidH (V_1.out.below hb)
      clear hb B1 C1 V_1
      rw [HA.out]
      go_wp2_with fail
      refine (sLrun_any (.slice av zs.length cv) zs k0 dn w2 _ _ V_2.out).mono ?_; rintro e w3 ⟨rfl, hb⟩
      have B3 := hidH (B2.out.trans (hb.mono B2.out.size))
      have C3 := hidH (C2.out.trans (hb.mono C2.out.size))
      have V_3 := hidH (V_2.out.below hb)
      clear hb B2 C2 V_2
      rw [HA.out]
      go_wp2_with fail
      go_loopw [7] (fun i wr => ∃ q : Nat, 1 ≤ q ∧ q ≤ zs.length - k0 + 1 ∧ i = .int .i64 q ∧ Below w3.heap.size w3 wr) (fun i _ => zs.length - k0 + 1 - (intOf i).toNat)
      case atStart => exact ⟨1, Nat.le_refl _, by omega, rfl, Below.refl _ _⟩
      case round =>
        obtain ⟨q, hq1, hq2, rfl, hb⟩ := hrel
        have HB := hidH hb
        clear hb
        by_cases hlt : q ≤ zs.length - k0
        · have VQ := hidH (V_3.out.below HB.out)
          obtain ⟨vb, vo, vc, e, _, _, _, _, _, _⟩ := VQ.out.addr (by omega)
          injection e with e1 e2 e3
          subst e1; subst e3
          have ⟨hsm, hrn⟩ := HRL.out q hq1 hlt
          have HC := hidH (deRun_any (.slice (some ⟨vb, vo + k0, none⟩) q (cv - k0)) ((zs.drop k0).take q) dn wr _ _ ((VQ.out.dropped k0 (zs.length - k0) (cv - k0) (by omega) rfl rfl).taken q (by rw [List.length_drop]; omega)) hsm)
          rw [hrn] at HC
          obtain ⟨m, hkm, hmc, hmk, hkm2, hml⟩ : ∃ m : Nat, (k0 : Int) + (q : Int) = (m : Int) ∧ m ≤ cv ∧ m - k0 = q ∧ k0 ≤ m ∧ m ≤ zs.length := ⟨k0 + q, by omega, by omega, by omega, by omega, by omega⟩
          have hck : ¬ cv = k0 := by omega
          clear hsm hrn
          by_cases hql : q ≤ L
          · rw [decide_eq_true hql] at HC
            go_wp2_with fail
            refine HC.out.mono ?_; rintro e w7 ⟨rfl, hb⟩
            have HB7 := hidH (HB.out.trans (hb.mono HB.out.size))
            clear hb
            go_wp2_with fail
            go_roundw
            case rel => exact ⟨q + 1, by omega, by omega, by go_num, HB7.out⟩
            case measure => simp [intOf]; omega
          · rw [decide_eq_false hql] at HC
            go_wp2_with fail
            refine HC.out.mono ?_; rintro e w7 ⟨rfl, hb⟩
            have HB7 := hidH (HB.out.trans (hb.mono HB.out.size))
            clear hb
            go_wp2_with fail
            go_roundw
            case rel => exact ⟨q + 1, by omega, by omega, by go_num, HB7.out⟩
            case measure => simp [intOf]; omega
        · have hqe : zs.length - k0 + 1 = q := by omega
          have hgt : (zs.length : Int) < (k0 : Int) + (q : Int) := by omega
          have hfin : (k0 : Int) + (L : Int) ≤ (zs.length : Int) := by omega
          clear hq1 hlt hqe
          go_wp2_with fail
          go_ret
          exact ⟨rfl, B3.out.trans (HB.out.mono B3.out.size)⟩
end Go.Proofs.Ytgdfbnedaalflaa
