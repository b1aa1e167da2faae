/-
  The walk of a law: remainders of sums are sums of remainders, and a table has no wrong ones of its own. No conditions but that the bytes that came in can be read.
-/
import Derived.Test.YtojpnlipfbahdaaKitW
import Derived.Test.YtojpnlipfbahdaaErrH
import Derived.Test.YtojpnlipfbahdaaDeFns
namespace Go.Proofs.Ytojpnlipfbahdaa
set_option maxRecDepth 4000
open Go.RowKit
theorem drawNinesOf (a : Option Addr) (len cap : Nat) (w : World) (hc : Came w a len cap) (hl : len ≤ 1048576) : Calls Try.prog 19 #[.slice a len cap] w (DrawT1 w) := by
  have HD := hidH (drawTableValid a len cap w hc hl)
  clear hc
  go_enter Try.func19, Try.ntmps19
  go_wp2_with fail
  refine HD.out.mono ?_
  rintro e w1 ⟨v, zs, rfl, hrow, h61, hB⟩
  have RW := hidH hrow
  have B1 := hidH hB
  clear hrow hB
  go_wp2_with fail
  go_ret
  exact ⟨v, zs, rfl, RW.out, h61, B1.out⟩
theorem diff_self (R : List Int) (n : Nat) : diffTo R R n = [] := by
  induction n with
  | zero => rfl
  | succ n ih => rw [diffTo, if_pos rfl, ih]
theorem wrong_self (zs : List Int) : wrongA zs (restA 9 zs) = [] := by
  unfold wrongA
  rw [if_pos rfl, diff_self]
set_option maxHeartbeats 2000000 in
theorem lawNines (a : Option Addr) (len cap : Nat) (w : World) (hc : Came w a len cap) : Calls Try.prog 6 #[.slice a len cap] w (Gives (.bool true) w) := by
  have hcap := hc.lenLe
  have hcap2 := hc.capLe
  unfold maxLen at hcap2
  by_cases hbig : 1048576 < len
  · clear hc
    go_enter Try.func6, Try.ntmps6
    go_wp2
    go_ret
    exact ⟨rfl, Below.refl _ _⟩
  · have HD := hidH (drawNinesOf a len cap w hc (by omega))
    clear hc
    go_enter Try.func6, Try.ntmps6
    go_wp2_with fail
    refine HD.out.mono ?_
    rintro e w1 ⟨v, zs, rfl, hv, h61, hB⟩
    have V_1 := hidH hv.lies
    have B1 := hidH hB
    have C1 := hidH (Below.refl w1.heap.size w1)
    obtain ⟨av, cv, rfl, hlv, hcv, _, hcellv⟩ := hv.lies
    have HCV := hidH hcellv
    unfold maxLen at hcv
    clear hB HD hv hcellv
    go_wp2_with fail
    refine (nines_any (.slice av zs.length cv) zs w1 _ _ V_1.out).mono ?_; rintro e w2 ⟨n9, rfl, hr, hb⟩
    have B2 := hidH (B1.out.trans (hb.mono B1.out.size))
    have C2 := hidH (C1.out.trans (hb.mono C1.out.size))
    have V_2 := hidH (V_1.out.below hb)
    have N9_2 := hidH hr
    clear hb hr B1 C1 V_1
    go_wp2_with fail
    refine (elevens_any (.slice av zs.length cv) zs w2 _ _ V_2.out).mono ?_; rintro e w3 ⟨n11, rfl, hr, hb⟩
    have B3 := hidH (B2.out.trans (hb.mono B2.out.size))
    have C3 := hidH (C2.out.trans (hb.mono C2.out.size))
    have V_3 := hidH (V_2.out.below hb)
    have N9_3 := hidH (N9_2.out.below hb)
    have N11_3 := hidH hr
    clear hb hr B2 C2 V_2 N9_2
    go_wp2_with fail
    refine (sNines_any (.slice av zs.length cv) zs w3 _ _ V_3.out).mono ?_; rintro e w4 ⟨s9, rfl, hr, hb⟩
    have B4 := hidH (B3.out.trans (hb.mono B3.out.size))
    have C4 := hidH (C3.out.trans (hb.mono C3.out.size))
    have V_4 := hidH (V_3.out.below hb)
    have N9_4 := hidH (N9_3.out.below hb)
    have N11_4 := hidH (N11_3.out.below hb)
    have S9_4 := hidH hr
    clear hb hr B3 C3 V_3 N9_3 N11_3
    go_wp2_with fail
    refine (deInts_yes n9 s9 (restA 9 zs) _ _ _ _ _ N9_4.out.lies S9_4.out.lies).mono ?_; rintro e w5 ⟨rfl, hb⟩
    have B5 := hidH (B4.out.trans (hb.mono B4.out.size))
    have C5 := hidH (C4.out.trans (hb.mono C4.out.size))
    have V_5 := hidH (V_4.out.below hb)
    have N9_5 := hidH (N9_4.out.below hb)
    have N11_5 := hidH (N11_4.out.below hb)
    have S9_5 := hidH (S9_4.out.below hb)
    clear hb B4 C4 V_4 N9_4 N11_4 S9_4
    clear S9_5
    go_wp2_with fail
    refine (sElevens_any (.slice av zs.length cv) zs w5 _ _ V_5.out).mono ?_; rintro e w6 ⟨s11, rfl, hr, hb⟩
    have B6 := hidH (B5.out.trans (hb.mono B5.out.size))
    have C6 := hidH (C5.out.trans (hb.mono C5.out.size))
    have V_6 := hidH (V_5.out.below hb)
    have N9_6 := hidH (N9_5.out.below hb)
    have N11_6 := hidH (N11_5.out.below hb)
    have S11_6 := hidH hr
    clear hb hr B5 C5 V_5 N9_5 N11_5
    go_wp2_with fail
    refine (deInts_yes n11 s11 (restA 11 zs) _ _ _ _ _ N11_6.out.lies S11_6.out.lies).mono ?_; rintro e w7 ⟨rfl, hb⟩
    have B7 := hidH (B6.out.trans (hb.mono B6.out.size))
    have C7 := hidH (C6.out.trans (hb.mono C6.out.size))
    have V_7 := hidH (V_6.out.below hb)
    have N9_7 := hidH (N9_6.out.below hb)
    have N11_7 := hidH (N11_6.out.below hb)
    have S11_7 := hidH (S11_6.out.below hb)
    clear hb B6 C6 V_6 N9_6 N11_6 S11_6
    clear S11_7
    cases ht : tableOk zs
    · have HT := hidH ht
      clear ht
      go_wp2_with fail
      refine (tableValid_any (.slice av zs.length cv) zs w7 _ _ V_7.out).mono ?_; rintro e w8 ⟨rfl, hb⟩
      have B8 := hidH (B7.out.trans (hb.mono B7.out.size))
      have C8 := hidH (C7.out.trans (hb.mono C7.out.size))
      have V_8 := hidH (V_7.out.below hb)
      have N9_8 := hidH (N9_7.out.below hb)
      have N11_8 := hidH (N11_7.out.below hb)
      clear hb B7 C7 V_7 N9_7 N11_7
      rw [HT.out]
      go_wp2_with fail
      refine (sNines_any (.slice av zs.length cv) zs w8 _ _ V_8.out).mono ?_; rintro e w9 ⟨q9, rfl, hr, hb⟩
      have B9 := hidH (B8.out.trans (hb.mono B8.out.size))
      have C9 := hidH (C8.out.trans (hb.mono C8.out.size))
      have V_9 := hidH (V_8.out.below hb)
      have N9_9 := hidH (N9_8.out.below hb)
      have N11_9 := hidH (N11_8.out.below hb)
      have S9_9 := hidH hr
      clear hb hr B8 C8 V_8 N9_8 N11_8
      go_wp2_with fail
      refine (deInts_yes n9 q9 (restA 9 zs) _ _ _ _ _ N9_9.out.lies S9_9.out.lies).mono ?_; rintro e w10 ⟨rfl, hb⟩
      have B10 := hidH (B9.out.trans (hb.mono B9.out.size))
      have C10 := hidH (C9.out.trans (hb.mono C9.out.size))
      have V_10 := hidH (V_9.out.below hb)
      have N9_10 := hidH (N9_9.out.below hb)
      have N11_10 := hidH (N11_9.out.below hb)
      have S9_10 := hidH (S9_9.out.below hb)
      clear hb B9 C9 V_9 N9_9 N11_9 S9_9
      clear S9_10
      go_wp2_with fail
      refine (sElevens_any (.slice av zs.length cv) zs w10 _ _ V_10.out).mono ?_; rintro e w11 ⟨q11, rfl, hr, hb⟩
      have B11 := hidH (B10.out.trans (hb.mono B10.out.size))
      have C11 := hidH (C10.out.trans (hb.mono C10.out.size))
      have V_11 := hidH (V_10.out.below hb)
      have N9_11 := hidH (N9_10.out.below hb)
      have N11_11 := hidH (N11_10.out.below hb)
      have S11_11 := hidH hr
      clear hb hr B10 C10 V_10 N9_10 N11_10
      go_wp2_with fail
      refine (deInts_yes n11 q11 (restA 11 zs) _ _ _ _ _ N11_11.out.lies S11_11.out.lies).mono ?_; rintro e w12 ⟨rfl, hb⟩
      have B12 := hidH (B11.out.trans (hb.mono B11.out.size))
      have C12 := hidH (C11.out.trans (hb.mono C11.out.size))
      have V_12 := hidH (V_11.out.below hb)
      have N9_12 := hidH (N9_11.out.below hb)
      have N11_12 := hidH (N11_11.out.below hb)
      have S11_12 := hidH (S11_11.out.below hb)
      clear hb B11 C11 V_11 N9_11 N11_11 S11_11
      go_wp2_with fail
      go_ret
      exact ⟨rfl, B12.out⟩
    · have HT := hidH ht
      have hE9 : restA 9 zs = restL zs 9 := by rw [restA, ht]; rfl
      have hE11 : restA 11 zs = restL zs 11 := by rw [restA, ht]; rfl
      have ⟨ht1, ht2⟩ := tableOk_len _ ht
      have HWS := hidH (wrong_self zs)
      rw [hE9] at HWS
      clear ht
      go_wp2_with fail
      refine (tableValid_any (.slice av zs.length cv) zs w7 _ _ V_7.out).mono ?_; rintro e w8 ⟨rfl, hb⟩
      have B8 := hidH (B7.out.trans (hb.mono B7.out.size))
      have C8 := hidH (C7.out.trans (hb.mono C7.out.size))
      have V_8 := hidH (V_7.out.below hb)
      have N9_8 := hidH (N9_7.out.below hb)
      have N11_8 := hidH (N11_7.out.below hb)
      clear hb B7 C7 V_7 N9_7 N11_7
      rw [HT.out]
      rw [hE9] at N9_8
      rw [hE11] at N11_8
      clear hE9 hE11
      obtain ⟨a9, c9, rfl, hl9, hc9, _, hcell9⟩ := N9_8.out.lies
      obtain ⟨a11, c11, rfl, hl11, hc11, _, hcell11⟩ := N11_8.out.lies
      have HC9 := hidH hcell9
      have HC11 := hidH hcell11
      have HL9 := hidH (restL_length zs 9)
      have HL11 := hidH (restL_length zs 11)
      rw [HL9.out] at hl9 ⊢
      rw [HL11.out] at hl11 ⊢
      unfold maxLen at hc9 hc11
      clear hcell9 hcell11
      have HN9 := hidH (show Lies w8 0 w8.heap.size (.slice a9 zs.length c9) (restL zs 9) by have := N9_8.out.lies.top; rw [HL9.out] at this; exact this)
      go_wp2_with fail
      go_loopw [6, 7, 8, 9] (fun s x y i wr => ∃ (j : Nat) (S X Y : Int), j ≤ zs.length ∧ i = .int .i64 j ∧ s = .int .i64 S ∧ x = .int .i64 X ∧ y = .int .i64 Y ∧ -1000000000 * (j : Int) ≤ S ∧ S ≤ 1000000000 * (j : Int) ∧ 0 ≤ X ∧ X ≤ 8 * (j : Int) ∧ 0 ≤ Y ∧ Y ≤ 10 * (j : Int) ∧ (S - X) % 9 = 0 ∧ (S - Y) % 11 = 0 ∧ wr = w8) (fun _ _ _ i _ => zs.length - (intOf i).toNat)
      case atStart => exact ⟨0, 0, 0, 0, Nat.zero_le _, rfl, rfl, rfl, rfl, by omega, by omega, by omega, by omega, by omega, by omega, by omega, by omega, rfl⟩
      case round =>
        obtain ⟨j, S, X, Y, hj, rfl, rfl, rfl, rfl, s1, s2, x1, x2, y1, y2, m9, m11, rfl⟩ := hrel
        have HM9 := hidH m9
        have HM11 := hidH m11
        clear m9 m11
        by_cases hlt : j < zs.length
        · obtain ⟨z, hz⟩ := get_lt zs j hlt
          have ⟨z1, z2⟩ := tab_bd HT.out hz
          obtain ⟨bz, oz, rfl, _, hbz, hcz⟩ := HCV.out j z hz
          obtain ⟨b9, o9, rfl, _, _, hcc9⟩ := HC9.out j _ (restL_get zs 9 j z hz)
          obtain ⟨b11, o11, rfl, _, _, hcc11⟩ := HC11.out j _ (restL_get zs 11 j z hz)
          have hcw : wr.cell? ⟨bz, oz + j, none⟩ = some (.int .i64 z) := by rw [C8.out.cell (p := ⟨bz, oz + j, none⟩) hbz]; exact hcz
          have ⟨p1, p2⟩ : 0 ≤ restN z 9 ∧ restN z 9 ≤ 8 := by unfold restN; omega
          have ⟨p3, p4⟩ : 0 ≤ restN z 11 ∧ restN z 11 ≤ 10 := by unfold restN; omega
          have HQ9 := hidH (show (S + z - (X + restN z 9)) % 9 = 0 by have := HM9.out; unfold restN; omega)
          have HQ11 := hidH (show (S + z - (Y + restN z 11)) % 11 = 0 by have := HM11.out; unfold restN; omega)
          generalize restN z 9 = r9 at *
          generalize restN z 11 = r11 at *
          have hd1 : ¬ r9 < 0 := by omega
          have hd2 : ¬ 8 < r9 := by omega
          have hd3 : ¬ r11 < 0 := by omega
          have hd4 : ¬ 10 < r11 := by omega
          clear hz hcz
          go_wp2_with fail
          go_roundw
          case rel => exact ⟨j + 1, S + z, X + r9, Y + r11, by omega, by go_num, by go_num, by go_num, by go_num, by omega, by omega, by omega, by omega, by omega, by omega, HQ9.out, HQ11.out, by first | rfl | trivial⟩
          case measure => simp [intOf]; omega
        · obtain rfl : j = zs.length := by omega
          have t9 : (S - X).tmod 9 = 0 := Int.tmod_eq_zero_of_dvd (Int.dvd_of_emod_eq_zero HM9.out)
          have t11 : (S - Y).tmod 11 = 0 := Int.tmod_eq_zero_of_dvd (Int.dvd_of_emod_eq_zero HM11.out)
          have v9 : IntKind.i64.wrap (S - X) = S - X := IntWalk.i64_in _ (by omega)
          have v11 : IntKind.i64.wrap (S - Y) = S - Y := IntWalk.i64_in _ (by omega)
          clear HM9 HM11
          go_wp2_with fail
          refine (wrong_any _ zs _ (restL zs 9) wr _ _ _ _ V_8.out HN9.out).mono ?_; rintro e wz ⟨q, rfl, hr, hb⟩
          rw [HWS.out] at hr
          obtain ⟨aq, cq, rfl, _⟩ := hr
          have BZ := hidH (B8.out.trans (hb.mono B8.out.size))
          clear hb
          go_wp2_with fail
          go_ret
          exact ⟨rfl, BZ.out⟩
end Go.Proofs.Ytojpnlipfbahdaa
