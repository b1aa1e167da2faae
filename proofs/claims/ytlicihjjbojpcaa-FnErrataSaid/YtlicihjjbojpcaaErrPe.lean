/-
  The walk of a law: errata make the right table of the printed one. No conditions but that the bytes that came in can be read.
-/
import Derived.Test.YtlicihjjbojpcaaErrPd
import Derived.Test.YtlicihjjbojpcaaErrKc
import Derived.Test.YtlicihjjbojpcaaErrEb
import Derived.Test.YtlicihjjbojpcaaPolyLf
namespace Go.Proofs.Ytlicihjjbojpcaa
set_option maxRecDepth 4000
open Go.RowKit
set_option maxHeartbeats 2000000 in
theorem lawErrata (a : Option Addr) (len cap : Nat) (w : World) (hc : Came w a len cap) : Calls Try.prog 6 #[.slice a len cap] w (Gives (.bool true) w) := by
  have hcap := hc.lenLe
  have hcap2 := hc.capLe
  unfold maxLen at hcap2
  by_cases hbig : 1048576 < len
  · clear hc
    go_enter Try.func6, Try.ntmps6
    go_wp2
    go_ret
    exact ⟨rfl, Below.refl _ _⟩
  · have HD := hidH (drawErrataOf a len cap w hc (by omega))
    clear hc
    go_enter Try.func6, Try.ntmps6
    go_wp2_with fail
    refine HD.out.mono ?_
    rintro e w1 ⟨v, u, zs, ys, rfl, hv, hu, h1, h2, hB⟩
    have V_1 := hidH hv
    have U_1 := hidH hu
    have B1 := hidH hB
    have C1 := hidH (Below.refl w1.heap.size w1)
    obtain ⟨av, cv, rfl, hlv, hcv, _, hcellv⟩ := hv
    obtain ⟨au, cu, rfl, hlu, hcu, _, hcellu⟩ := hu
    unfold maxLen at hcv hcu
    clear hB HD hcellv hcellu
    go_wp2_with fail
    refine (errataOf_any (.slice av zs.length cv) zs (.slice au ys.length cu) ys w1 _ _ _ _ V_1.out U_1.out).mono ?_; rintro e w2 ⟨q, rfl, hr, hb⟩
    have B2 := hidH (B1.out.trans (hb.mono B1.out.size))
    have C2 := hidH (C1.out.trans (hb.mono C1.out.size))
    have V_2 := hidH (V_1.out.below hb)
    have U_2 := hidH (U_1.out.below hb)
    have Q_2 := hidH hr
    clear hb hr B1 C1 V_1 U_1
    go_wp2_with fail
    refine (sErrataOf_any (.slice av zs.length cv) zs (.slice au ys.length cu) ys w2 _ _ _ _ V_2.out U_2.out).mono ?_; rintro e w3 ⟨s, rfl, hr, hb⟩
    have B3 := hidH (B2.out.trans (hb.mono B2.out.size))
    have C3 := hidH (C2.out.trans (hb.mono C2.out.size))
    have V_3 := hidH (V_2.out.below hb)
    have U_3 := hidH (U_2.out.below hb)
    have Q_3 := hidH (Q_2.out.below hb)
    have S_3 := hidH hr
    clear hb hr B2 C2 V_2 U_2 Q_2
    have hn60 := errataN_le zs ys
    go_wp2_with fail
    refine (deE_yes q s (errataN zs ys) (errataF zs ys) _ _ _ _ _ Q_3.out.lies S_3.out.lies (by omega)).mono ?_; rintro e w4 ⟨rfl, hb⟩
    have B4 := hidH (B3.out.trans (hb.mono B3.out.size))
    have C4 := hidH (C3.out.trans (hb.mono C3.out.size))
    have V_4 := hidH (V_3.out.below hb)
    have U_4 := hidH (U_3.out.below hb)
    have Q_4 := hidH (Q_3.out.below hb)
    have S_4 := hidH (S_3.out.below hb)
    clear hb B3 C3 V_3 U_3 Q_3 S_3
    cases hp : tabsOk zs ys
    · go_wp2_with fail
      refine (deE_yes q s (errataN zs ys) (errataF zs ys) _ _ _ _ _ Q_4.out.lies S_4.out.lies (by omega)).mono ?_; rintro e w5 ⟨rfl, hb⟩
      have B5 := hidH (B4.out.trans (hb.mono B4.out.size))
      have C5 := hidH (C4.out.trans (hb.mono C4.out.size))
      have V_5 := hidH (V_4.out.below hb)
      have U_5 := hidH (U_4.out.below hb)
      have Q_5 := hidH (Q_4.out.below hb)
      have S_5 := hidH (S_4.out.below hb)
      clear hb B4 C4 V_4 U_4 Q_4 S_4
      go_wp2_with fail
      go_ret
      exact ⟨rfl, B5.out⟩
    · obtain ⟨hxA, hxB, htA, hnA, htB, hnB, hwr⟩ := errata_apply zs ys hp
      have HXA := hidH hxA
      have HXB := hidH hxB
      have HTA := hidH htA
      have HNA := hidH hnA
      have HTB := hidH htB
      have HNB := hidH hnB
      have HWR := hidH hwr
      clear hxA hxB htA hnA htB hnB hwr hp
      clear S_4
      go_wp2_with fail
      refine (applyE_any (.slice au ys.length cu) ys q (errataN zs ys) (errataF zs ys) w4 _ _ _ _ U_4.out Q_4.out.lies (by omega)).mono ?_; rintro e w5 ⟨x, rfl, hr, hb⟩
      have B5 := hidH (B4.out.trans (hb.mono B4.out.size))
      have C5 := hidH (C4.out.trans (hb.mono C4.out.size))
      have V_5 := hidH (V_4.out.below hb)
      have U_5 := hidH (U_4.out.below hb)
      have Q_5 := hidH (Q_4.out.below hb)
      have X_5 := hidH hr
      clear hb hr B4 C4 V_4 U_4 Q_4
      rw [HXA.out] at X_5
      rw [HXB.out]
      go_wp2_with fail
      refine (errataOf_any (.slice av zs.length cv) zs (.slice av zs.length cv) zs w5 _ _ _ _ V_5.out V_5.out).mono ?_; rintro e w6 ⟨nn, rfl, hr, hb⟩
      have B6 := hidH (B5.out.trans (hb.mono B5.out.size))
      have C6 := hidH (C5.out.trans (hb.mono C5.out.size))
      have V_6 := hidH (V_5.out.below hb)
      have U_6 := hidH (U_5.out.below hb)
      have Q_6 := hidH (Q_5.out.below hb)
      have X_6 := hidH (X_5.out.below hb)
      have N_6 := hidH hr
      clear hb hr B5 C5 V_5 U_5 Q_5 X_5
      rw [HNA.out] at N_6
      rw [HTA.out]
      obtain ⟨na, nc, rfl, hnc1, hnc2⟩ := lies3_len N_6.out.lies
      clear N_6
      go_wp2_with fail
      refine (errataOf_any (.slice au ys.length cu) ys (.slice av zs.length cv) zs w6 _ _ _ _ U_6.out V_6.out).mono ?_; rintro e w7 ⟨bk, rfl, hr, hb⟩
      have B7 := hidH (B6.out.trans (hb.mono B6.out.size))
      have C7 := hidH (C6.out.trans (hb.mono C6.out.size))
      have V_7 := hidH (V_6.out.below hb)
      have U_7 := hidH (U_6.out.below hb)
      have Q_7 := hidH (Q_6.out.below hb)
      have X_7 := hidH (X_6.out.below hb)
      have K_7 := hidH hr
      clear hb hr B6 C6 V_6 U_6 Q_6 X_6
      rw [HNB.out] at K_7
      rw [HTB.out]
      have HDE := hidH (fun m => deInts_quiet x (.slice av zs.length cv) zs (w7.drewN m) _ _ _ _ (X_7.out.below (below_drewN (Below.refl _ _) _)).lies (V_7.out.below (below_drewN (Below.refl _ _) _)))
      unfold maxLen at hnc2
      by_cases h0 : 0 < errataN zs ys
      · obtain ⟨qb, qo, qc, rfl, hq1, hq2, hq3, hqc⟩ := lies3_cells Q_7.out.lies h0
        obtain ⟨kb, ko, kc, rfl, hk1, hk2, hk3, hkc⟩ := lies3_cells K_7.out.lies h0
        obtain ⟨_, _, hq⟩ := hqc 0 h0
        obtain ⟨_, hk, _⟩ := hkc 0 h0
        rw [HWR.out h0] at hk
        rw [Nat.zero_mul, Nat.add_zero] at hq hk
        unfold maxLen at hq2 hk2
        clear hqc hkc
        generalize eRi (errataF zs ys) 0 = y at *
        clear Q_7 K_7 X_7 HXA HXB HNA HNB HTA HTB HWR
        generalize errataN zs ys = n at *
        have hnz : (n == 0) = false := beq_eq_false_iff_ne.2 (by omega)
        have hnz2 : ((n : Int) == 0) = false := beq_eq_false_iff_ne.2 (by omega)
        go_wp2_with fail
        go_quiet ((go_at_call 14; exact Calls.quiet_of (HDE.out _)))
        go_wp2_with fail
        go_ret
        exact ⟨rfl, below_drewN B7.out _⟩
      · obtain ⟨qa, qc, rfl, hq1, hq2⟩ := lies3_len Q_7.out.lies
        obtain ⟨ka, kc, rfl, hk1, hk2⟩ := lies3_len K_7.out.lies
        clear Q_7 K_7 X_7 HXA HXB HNA HNB HTA HTB HWR
        unfold maxLen at hq2 hk2
        generalize errataN zs ys = n at *
        obtain rfl : n = 0 := by omega
        go_wp2_with fail
        go_quiet ((go_at_call 14; exact Calls.quiet_of (HDE.out _)))
        go_wp2_with fail
        go_ret
        exact ⟨rfl, below_drewN B7.out _⟩
end Go.Proofs.Ytlicihjjbojpcaa
