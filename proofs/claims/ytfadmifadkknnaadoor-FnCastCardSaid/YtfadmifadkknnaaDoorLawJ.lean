/-
  The walk of a law of remainders: those of two columns add up to that of their sum and of what the highest wheel has lost, and the remainder by 9 is that of the sum of the digits. No conditions but that the bytes that came in can be read.
-/
import Derived.Test.YtfadmifadkknnaaDoorLawH
namespace Go.Proofs.YtfadmifadkknnaaDoor
open Go.RowKit
theorem ten_nine (n : Nat) (h : n ≤ 12) : tenP n % 9 = 1 := by
  have : n = 0 ∨ n = 1 ∨ n = 2 ∨ n = 3 ∨ n = 4 ∨ n = 5 ∨ n = 6 ∨ n = 7 ∨ n = 8 ∨ n = 9 ∨ n = 10 ∨ n = 11 ∨ n = 12 := by omega
  rcases this with rfl | rfl | rfl | rfl | rfl | rfl | rfl | rfl | rfl | rfl | rfl | rfl | rfl <;> decide
theorem ten_eleven (n : Nat) (h : n ≤ 12) : tenP n % 11 = if n % 2 = 1 then 10 else 1 := by
  have : n = 0 ∨ n = 1 ∨ n = 2 ∨ n = 3 ∨ n = 4 ∨ n = 5 ∨ n = 6 ∨ n = 7 ∨ n = 8 ∨ n = 9 ∨ n = 10 ∨ n = 11 ∨ n = 12 := by omega
  rcases this with rfl | rfl | rfl | rfl | rfl | rfl | rfl | rfl | rfl | rfl | rfl | rfl | rfl <;> decide
/-- What a sum loses. -/
theorem sum_lost (a b : ByteArray) (ha : ok a = true) (hb : ok b = true) (hab : a.size = b.size) : (valS (sumS a b) < valS a ∧ valS a + valS b = valS (sumS a b) + tenP a.size) ∨ (¬ valS (sumS a b) < valS a ∧ valS a + valS b = valS (sumS a b)) := by
  have ⟨a0, a1, _, _, _⟩ := valS_bd a ha
  have ⟨b0, b1, _, _, _⟩ := valS_bd b hb
  rw [← hab] at b1
  have e : valS (sumS a b) = (valS a + valS b) % tenP a.size := showS_val _ _
  rw [e]
  by_cases h : valS a + valS b < tenP a.size
  · right
    rw [Int.emod_eq_of_lt (by omega) h]
    omega
  · left
    have e2 : (valS a + valS b) % tenP a.size = valS a + valS b - tenP a.size := by
      rw [← Int.sub_emod_right, Int.emod_eq_of_lt (by omega) (by omega)]
    rw [e2]
    omega
/-- The digits up to a place, and their sum. -/
theorem take_nine (s : ByteArray) (h : ok s = true) (k : Nat) (hk : k < s.size) : val (s.data.toList.take (k + 1)) = 10 * val (s.data.toList.take k) + ((s[k].toNat : Int) - 48) ∧ 48 ≤ (s[k].toNat : Int) ∧ (s[k].toNat : Int) ≤ 57 := by
  have ⟨hd, _, _⟩ := (ok_iff s).1 h
  rw [take_more s k hk, val_snoc]
  exact ⟨rfl, hd _ (List.mem_of_getElem? (get_at s k hk))⟩
set_option maxHeartbeats 1600000 in
theorem lawCast (a : Option Addr) (len cap : Nat) (w : World) (hc : Came w a len cap) : Calls Tryd.prog 8 #[.slice a len cap] w (Gives (.bool true) w) := by
  obtain ⟨hcap, hcap2, hb, hnil⟩ := hc
  unfold maxLen at hcap2
  by_cases hbig : 1048576 < len
  · clear hb hnil
    go_enter Tryd.func8, Tryd.ntmps8
    go_wp2
    go_ret
    exact ⟨rfl, Below.refl _ _⟩
  · have HD := hidH (drawAddColumns_any a len cap w (by omega) hcap hcap2 hb hnil)
    clear hb hnil
    go_enter Tryd.func8, Tryd.ntmps8
    go_wp2_with fail
    refine HD.out.mono ?_
    rintro e w1 ⟨s, t, hs, ht, rfl, hB⟩
    have B1 := hidH hB
    clear hB HD
    cases hk : pair s t
    · have HC := hidH fun w => addC_no s t w (by omega) (by omega) hk
      have HS := hidH fun w => sAdd_no s t (by omega) (by omega) w hk
      have HV := hidH fun w => colValid_any s (by omega) w
      cases hok : ok s
      · rw [hok] at HV
        have HN := hidH fun w => castNines_no s (by omega) w hok
        clear hk hok
        go_wp2_with fail
        refine (HC.out _).mono ?_; rintro e w2 ⟨rfl, hB⟩
        have B2 := hidH (B1.out.trans (hB.mono B1.out.size))
        clear hB B1
        go_wp2_with fail
        refine (HS.out _).mono ?_; rintro e w3 ⟨rfl, hB⟩
        have B3 := hidH (B2.out.trans (hB.mono B2.out.size))
        clear hB B2
        go_wp2_with fail
        refine (HV.out _).mono ?_; rintro e w4 ⟨rfl, hB⟩
        have B4 := hidH (B3.out.trans (hB.mono B3.out.size))
        clear hB B3
        go_wp2_with fail
        refine (HN.out _).mono ?_; rintro e w5 ⟨rfl, hB⟩
        have B5 := hidH (B4.out.trans (hB.mono B4.out.size))
        clear hB B4
        go_wp2
        go_ret
        exact ⟨rfl, B5.out⟩
      · rw [hok] at HV
        clear hk hok
        go_wp2_with fail
        refine (HC.out _).mono ?_; rintro e w2 ⟨rfl, hB⟩
        have B2 := hidH (B1.out.trans (hB.mono B1.out.size))
        clear hB B1
        go_wp2_with fail
        refine (HS.out _).mono ?_; rintro e w3 ⟨rfl, hB⟩
        have B3 := hidH (B2.out.trans (hB.mono B2.out.size))
        clear hB B2
        go_wp2_with fail
        refine (HV.out _).mono ?_; rintro e w4 ⟨rfl, hB⟩
        have B4 := hidH (B3.out.trans (hB.mono B3.out.size))
        clear hB B3
        go_wp2
        go_ret
        exact ⟨rfl, B4.out⟩
    · obtain ⟨ha, hb, hab⟩ := (pair_iff s t).1 hk
      have ⟨_, g1, g2⟩ := (ok_iff s).1 ha
      have HC := hidH fun w => addS_yes s t w ha hb hab
      have HS : Hid (∀ w, Calls Tryd.prog 28 #[.string s, .string t] w (Gives (.tuple #[.string (sumS s t), .bool true]) w)) := hidH fun w => sAdd_yes s t (by omega) (by omega) w hk
      have oks : ok (sumS s t) = true := showS_ok _ _ g1 g2
      have szs : (sumS s t).size = s.size := showS_size _ _
      have HVC := hidH fun w => value_yes (sumS s t) (by omega) w oks
      have HVA := hidH fun w => value_yes s (by omega) w ha
      have HNA := hidH fun w => castNines_yes s (by omega) w ha
      have HNB := hidH fun w => castNines_yes t (by omega) w hb
      have HNC := hidH fun w => castNines_yes (sumS s t) (by omega) w oks
      have HEA := hidH fun w => castElevens_yes s (by omega) w ha
      have HEB := hidH fun w => castElevens_yes t (by omega) w hb
      have HEC := hidH fun w => castElevens_yes (sumS s t) (by omega) w oks
      have HL := sum_lost s t ha hb hab
      have HT := hidH (take_nine s ha)
      have hfull : valS s = val (s.data.toList.take s.size) := by
        rw [List.take_of_length_le (by rw [size_len]; exact Nat.le_refl _)]; rfl
      have HF := hidH hfull
      have n9 := ten_nine s.size g2
      have n11 := ten_eleven s.size g2
      have ⟨a0, a1, _, _, t1⟩ := valS_bd s ha
      have ⟨b0, b1, _, _, t2⟩ := valS_bd t hb
      have ⟨c0, c1, _, _, t3⟩ := valS_bd (sumS s t) oks
      have HM : Hid (∃ lost size : Int, (lost = if valS (sumS s t) < valS s then 1 else 0) ∧ (size = if s.size % 2 = 1 then 10 else 1) ∧ (valS s % 9 + valS t % 9 - lost - valS (sumS s t) % 9) % 9 = 0 ∧ (valS s % 11 + valS t % 11 - lost * size - valS (sumS s t) % 11) % 11 = 0) := by
        refine ⟨_, _, rfl, rfl, ?_, ?_⟩
        · rcases HL with ⟨h1, h2⟩ | ⟨h1, h2⟩
          · rw [if_pos h1]; omega
          · rw [if_neg h1]; omega
        · rcases HL with ⟨h1, h2⟩ | ⟨h1, h2⟩
          · rw [if_pos h1, Int.one_mul, ← n11]; omega
          · rw [if_neg h1, Int.zero_mul]; omega
      clear HL n9 n11 hk ha hb oks hfull
      have A1 : valS s < 1000000000000 := by omega
      have A2 : valS t < 1000000000000 := by omega
      have A3 : valS (sumS s t) < 1000000000000 := by omega
      clear a1 b1 c1 t1 t2 t3
      generalize sumS s t = C at *
      generalize valS C = vc at *
      generalize valS t = vb at *
      generalize valS s = va at *
      obtain ⟨lost, size, hlost, hsize, h9, h11⟩ := HM.out
      clear HM
      have p0 := Int.emod_nonneg va (show (9 : Int) ≠ 0 by decide)
      have p1 := Int.emod_lt_of_pos va (show (0 : Int) < 9 by decide)
      have q0 := Int.emod_nonneg vb (show (9 : Int) ≠ 0 by decide)
      have q1 := Int.emod_lt_of_pos vb (show (0 : Int) < 9 by decide)
      have r0 := Int.emod_nonneg vc (show (9 : Int) ≠ 0 by decide)
      have r1 := Int.emod_lt_of_pos vc (show (0 : Int) < 9 by decide)
      have P0 := Int.emod_nonneg va (show (11 : Int) ≠ 0 by decide)
      have P1 := Int.emod_lt_of_pos va (show (0 : Int) < 11 by decide)
      have Q0 := Int.emod_nonneg vb (show (11 : Int) ≠ 0 by decide)
      have Q1 := Int.emod_lt_of_pos vb (show (0 : Int) < 11 by decide)
      have R0 := Int.emod_nonneg vc (show (11 : Int) ≠ 0 by decide)
      have R1 := Int.emod_lt_of_pos vc (show (0 : Int) < 11 by decide)
      have HF9 : Hid (va % 9 = val (s.data.toList.take s.size) % 9) := hidH (by rw [← HF.out])
      clear HF
      generalize va % 9 = p at *
      generalize vb % 9 = q at *
      generalize vc % 9 = r at *
      generalize va % 11 = P at *
      generalize vb % 11 = Q at *
      generalize vc % 11 = R at *

      by_cases hlo : vc < va
      · by_cases hod : s.size % 2 = 1
        · skip
          have e1 : lost = 1 := by rw [hlost]; first | rw [if_pos hlo] | rw [if_neg hlo]
          have e2 : size = 10 := by rw [hsize]; first | rw [if_pos hod] | rw [if_neg hod]
          rw [e1] at h9
          rw [e1, e2] at h11
          have k9 : (p + q - 1 - r).tmod 9 = 0 := Int.tmod_eq_zero_of_dvd (Int.dvd_of_emod_eq_zero h9)
          have k11 : (P + Q - 10 - R).tmod 11 = 0 := Int.tmod_eq_zero_of_dvd (Int.dvd_of_emod_eq_zero h11)
          skip
          clear h9 h11 hlost hsize e1 e2
          go_wp2_with fail
          refine (HC.out _).mono ?_; rintro e w2 ⟨rfl, hB⟩
          have B2 := hidH (B1.out.trans (hB.mono B1.out.size))
          clear hB B1
          go_wp2_with fail
          refine (HS.out _).mono ?_; rintro e w3 ⟨rfl, hB⟩
          have B3 := hidH (B2.out.trans (hB.mono B2.out.size))
          clear hB B2
          go_wp2_with fail
          refine (HVC.out _).mono ?_; rintro e w4 ⟨rfl, hB⟩
          have B4 := hidH (B3.out.trans (hB.mono B3.out.size))
          clear hB B3
          go_wp2_with fail
          refine (HVA.out _).mono ?_; rintro e w5 ⟨rfl, hB⟩
          have B5 := hidH (B4.out.trans (hB.mono B4.out.size))
          clear hB B4
          go_wp2
          go_loopw [11, 12] (fun d i wr => ∃ (k : Nat) (D : Int), k ≤ s.size ∧ i = .int .i64 k ∧ d = .int .i64 D ∧ 0 ≤ D ∧ D ≤ 9 * k ∧ D % 9 = val (s.data.toList.take k) % 9 ∧ Below w.heap.size w wr) (fun _ i _ => s.size - (intOf i).toNat)
          case atStart => exact ⟨0, 0, Nat.zero_le _, rfl, rfl, by omega, by omega, rfl, B5.out⟩
          case round =>
            obtain ⟨k, D, hk, rfl, rfl, D0, D1, hD, hB⟩ := hrel
            have B6 := hidH hB
            have HD := hidH hD
            clear hB hD B5
            by_cases hlt : k < s.size
            · have ⟨ht, x0, x1⟩ := HT.out k hlt
              have HV := hidH ht
              clear ht HC HS HVC HVA k9 k11
              go_wp2
              go_roundw
              case rel =>
                refine ⟨k + 1, D + (s[k].toNat : Int) - 48, by omega, by go_num, by go_num, by omega, by omega, ?_, B6.out⟩
                have h1 := HV.out
                have h2 := HD.out
                rw [h1]
                omega
              case measure => simp [intOf]; omega
            · obtain rfl : k = s.size := by omega
              have hDp : D % 9 = p := by rw [HD.out, ← HF9.out]
              have hDt : D.tmod 9 = p := by rw [Int.tmod_eq_emod_of_nonneg D0]; exact hDp
              have hpp : (p == p) = true := beq_self_eq_true p
              go_wp2_with fail
              refine (HNA.out _).mono ?_; rintro e w7 ⟨rfl, hB⟩
              have B7 := hidH (B6.out.trans (hB.mono B6.out.size))
              clear hB B6
              go_wp2_with fail
              refine (HNA.out _).mono ?_; rintro e w8 ⟨rfl, hB⟩
              have B8 := hidH (B7.out.trans (hB.mono B7.out.size))
              clear hB B7
              go_wp2_with fail
              refine (HNB.out _).mono ?_; rintro e w9 ⟨rfl, hB⟩
              have B9 := hidH (B8.out.trans (hB.mono B8.out.size))
              clear hB B8
              go_wp2_with fail
              refine (HNC.out _).mono ?_; rintro e w10 ⟨rfl, hB⟩
              have B10 := hidH (B9.out.trans (hB.mono B9.out.size))
              clear hB B9
              go_wp2_with fail
              refine (HEA.out _).mono ?_; rintro e w11 ⟨rfl, hB⟩
              have B11 := hidH (B10.out.trans (hB.mono B10.out.size))
              clear hB B10
              go_wp2_with fail
              refine (HEB.out _).mono ?_; rintro e w12 ⟨rfl, hB⟩
              have B12 := hidH (B11.out.trans (hB.mono B11.out.size))
              clear hB B11
              go_wp2_with fail
              refine (HEC.out _).mono ?_; rintro e w13 ⟨rfl, hB⟩
              have B13 := hidH (B12.out.trans (hB.mono B12.out.size))
              clear hB B12
              go_wp2
              go_ret
              exact ⟨rfl, B13.out⟩
        · skip
          have e1 : lost = 1 := by rw [hlost]; first | rw [if_pos hlo] | rw [if_neg hlo]
          have e2 : size = 1 := by rw [hsize]; first | rw [if_pos hod] | rw [if_neg hod]
          rw [e1] at h9
          rw [e1, e2] at h11
          have k9 : (p + q - 1 - r).tmod 9 = 0 := Int.tmod_eq_zero_of_dvd (Int.dvd_of_emod_eq_zero h9)
          have k11 : (P + Q - 1 - R).tmod 11 = 0 := Int.tmod_eq_zero_of_dvd (Int.dvd_of_emod_eq_zero h11)
          skip
          clear h9 h11 hlost hsize e1 e2
          go_wp2_with fail
          refine (HC.out _).mono ?_; rintro e w2 ⟨rfl, hB⟩
          have B2 := hidH (B1.out.trans (hB.mono B1.out.size))
          clear hB B1
          go_wp2_with fail
          refine (HS.out _).mono ?_; rintro e w3 ⟨rfl, hB⟩
          have B3 := hidH (B2.out.trans (hB.mono B2.out.size))
          clear hB B2
          go_wp2_with fail
          refine (HVC.out _).mono ?_; rintro e w4 ⟨rfl, hB⟩
          have B4 := hidH (B3.out.trans (hB.mono B3.out.size))
          clear hB B3
          go_wp2_with fail
          refine (HVA.out _).mono ?_; rintro e w5 ⟨rfl, hB⟩
          have B5 := hidH (B4.out.trans (hB.mono B4.out.size))
          clear hB B4
          go_wp2
          go_loopw [11, 12] (fun d i wr => ∃ (k : Nat) (D : Int), k ≤ s.size ∧ i = .int .i64 k ∧ d = .int .i64 D ∧ 0 ≤ D ∧ D ≤ 9 * k ∧ D % 9 = val (s.data.toList.take k) % 9 ∧ Below w.heap.size w wr) (fun _ i _ => s.size - (intOf i).toNat)
          case atStart => exact ⟨0, 0, Nat.zero_le _, rfl, rfl, by omega, by omega, rfl, B5.out⟩
          case round =>
            obtain ⟨k, D, hk, rfl, rfl, D0, D1, hD, hB⟩ := hrel
            have B6 := hidH hB
            have HD := hidH hD
            clear hB hD B5
            by_cases hlt : k < s.size
            · have ⟨ht, x0, x1⟩ := HT.out k hlt
              have HV := hidH ht
              clear ht HC HS HVC HVA k9 k11
              go_wp2
              go_roundw
              case rel =>
                refine ⟨k + 1, D + (s[k].toNat : Int) - 48, by omega, by go_num, by go_num, by omega, by omega, ?_, B6.out⟩
                have h1 := HV.out
                have h2 := HD.out
                rw [h1]
                omega
              case measure => simp [intOf]; omega
            · obtain rfl : k = s.size := by omega
              have hDp : D % 9 = p := by rw [HD.out, ← HF9.out]
              have hDt : D.tmod 9 = p := by rw [Int.tmod_eq_emod_of_nonneg D0]; exact hDp
              have hpp : (p == p) = true := beq_self_eq_true p
              go_wp2_with fail
              refine (HNA.out _).mono ?_; rintro e w7 ⟨rfl, hB⟩
              have B7 := hidH (B6.out.trans (hB.mono B6.out.size))
              clear hB B6
              go_wp2_with fail
              refine (HNA.out _).mono ?_; rintro e w8 ⟨rfl, hB⟩
              have B8 := hidH (B7.out.trans (hB.mono B7.out.size))
              clear hB B7
              go_wp2_with fail
              refine (HNB.out _).mono ?_; rintro e w9 ⟨rfl, hB⟩
              have B9 := hidH (B8.out.trans (hB.mono B8.out.size))
              clear hB B8
              go_wp2_with fail
              refine (HNC.out _).mono ?_; rintro e w10 ⟨rfl, hB⟩
              have B10 := hidH (B9.out.trans (hB.mono B9.out.size))
              clear hB B9
              go_wp2_with fail
              refine (HEA.out _).mono ?_; rintro e w11 ⟨rfl, hB⟩
              have B11 := hidH (B10.out.trans (hB.mono B10.out.size))
              clear hB B10
              go_wp2_with fail
              refine (HEB.out _).mono ?_; rintro e w12 ⟨rfl, hB⟩
              have B12 := hidH (B11.out.trans (hB.mono B11.out.size))
              clear hB B11
              go_wp2_with fail
              refine (HEC.out _).mono ?_; rintro e w13 ⟨rfl, hB⟩
              have B13 := hidH (B12.out.trans (hB.mono B12.out.size))
              clear hB B12
              go_wp2
              go_ret
              exact ⟨rfl, B13.out⟩
      · by_cases hod : s.size % 2 = 1
        · skip
          have e1 : lost = 0 := by rw [hlost]; first | rw [if_pos hlo] | rw [if_neg hlo]
          have e2 : size = 10 := by rw [hsize]; first | rw [if_pos hod] | rw [if_neg hod]
          rw [e1] at h9
          rw [e1, e2] at h11
          have k9 : (p + q - 0 - r).tmod 9 = 0 := Int.tmod_eq_zero_of_dvd (Int.dvd_of_emod_eq_zero h9)
          have k11 : (P + Q - 0 - R).tmod 11 = 0 := Int.tmod_eq_zero_of_dvd (Int.dvd_of_emod_eq_zero h11)
          have m9 : (p + q - r).tmod 9 = 0 := by have h := k9; rw [Int.sub_zero] at h; exact h
          have m11 : (P + Q - R).tmod 11 = 0 := by have h := k11; rw [Int.sub_zero] at h; exact h
          clear h9 h11 hlost hsize e1 e2
          go_wp2_with fail
          refine (HC.out _).mono ?_; rintro e w2 ⟨rfl, hB⟩
          have B2 := hidH (B1.out.trans (hB.mono B1.out.size))
          clear hB B1
          go_wp2_with fail
          refine (HS.out _).mono ?_; rintro e w3 ⟨rfl, hB⟩
          have B3 := hidH (B2.out.trans (hB.mono B2.out.size))
          clear hB B2
          go_wp2_with fail
          refine (HVC.out _).mono ?_; rintro e w4 ⟨rfl, hB⟩
          have B4 := hidH (B3.out.trans (hB.mono B3.out.size))
          clear hB B3
          go_wp2_with fail
          refine (HVA.out _).mono ?_; rintro e w5 ⟨rfl, hB⟩
          have B5 := hidH (B4.out.trans (hB.mono B4.out.size))
          clear hB B4
          go_wp2
          go_loopw [11, 12] (fun d i wr => ∃ (k : Nat) (D : Int), k ≤ s.size ∧ i = .int .i64 k ∧ d = .int .i64 D ∧ 0 ≤ D ∧ D ≤ 9 * k ∧ D % 9 = val (s.data.toList.take k) % 9 ∧ Below w.heap.size w wr) (fun _ i _ => s.size - (intOf i).toNat)
          case atStart => exact ⟨0, 0, Nat.zero_le _, rfl, rfl, by omega, by omega, rfl, B5.out⟩
          case round =>
            obtain ⟨k, D, hk, rfl, rfl, D0, D1, hD, hB⟩ := hrel
            have B6 := hidH hB
            have HD := hidH hD
            clear hB hD B5
            by_cases hlt : k < s.size
            · have ⟨ht, x0, x1⟩ := HT.out k hlt
              have HV := hidH ht
              clear ht HC HS HVC HVA k9 k11
              go_wp2
              go_roundw
              case rel =>
                refine ⟨k + 1, D + (s[k].toNat : Int) - 48, by omega, by go_num, by go_num, by omega, by omega, ?_, B6.out⟩
                have h1 := HV.out
                have h2 := HD.out
                rw [h1]
                omega
              case measure => simp [intOf]; omega
            · obtain rfl : k = s.size := by omega
              have hDp : D % 9 = p := by rw [HD.out, ← HF9.out]
              have hDt : D.tmod 9 = p := by rw [Int.tmod_eq_emod_of_nonneg D0]; exact hDp
              have hpp : (p == p) = true := beq_self_eq_true p
              go_wp2_with fail
              refine (HNA.out _).mono ?_; rintro e w7 ⟨rfl, hB⟩
              have B7 := hidH (B6.out.trans (hB.mono B6.out.size))
              clear hB B6
              go_wp2_with fail
              refine (HNA.out _).mono ?_; rintro e w8 ⟨rfl, hB⟩
              have B8 := hidH (B7.out.trans (hB.mono B7.out.size))
              clear hB B7
              go_wp2_with fail
              refine (HNB.out _).mono ?_; rintro e w9 ⟨rfl, hB⟩
              have B9 := hidH (B8.out.trans (hB.mono B8.out.size))
              clear hB B8
              go_wp2_with fail
              refine (HNC.out _).mono ?_; rintro e w10 ⟨rfl, hB⟩
              have B10 := hidH (B9.out.trans (hB.mono B9.out.size))
              clear hB B9
              go_wp2_with fail
              refine (HEA.out _).mono ?_; rintro e w11 ⟨rfl, hB⟩
              have B11 := hidH (B10.out.trans (hB.mono B10.out.size))
              clear hB B10
              go_wp2_with fail
              refine (HEB.out _).mono ?_; rintro e w12 ⟨rfl, hB⟩
              have B12 := hidH (B11.out.trans (hB.mono B11.out.size))
              clear hB B11
              go_wp2_with fail
              refine (HEC.out _).mono ?_; rintro e w13 ⟨rfl, hB⟩
              have B13 := hidH (B12.out.trans (hB.mono B12.out.size))
              clear hB B12
              go_wp2
              go_ret
              exact ⟨rfl, B13.out⟩
        · skip
          have e1 : lost = 0 := by rw [hlost]; first | rw [if_pos hlo] | rw [if_neg hlo]
          have e2 : size = 1 := by rw [hsize]; first | rw [if_pos hod] | rw [if_neg hod]
          rw [e1] at h9
          rw [e1, e2] at h11
          have k9 : (p + q - 0 - r).tmod 9 = 0 := Int.tmod_eq_zero_of_dvd (Int.dvd_of_emod_eq_zero h9)
          have k11 : (P + Q - 0 - R).tmod 11 = 0 := Int.tmod_eq_zero_of_dvd (Int.dvd_of_emod_eq_zero h11)
          have m9 : (p + q - r).tmod 9 = 0 := by have h := k9; rw [Int.sub_zero] at h; exact h
          have m11 : (P + Q - R).tmod 11 = 0 := by have h := k11; rw [Int.sub_zero] at h; exact h
          clear h9 h11 hlost hsize e1 e2
          go_wp2_with fail
          refine (HC.out _).mono ?_; rintro e w2 ⟨rfl, hB⟩
          have B2 := hidH (B1.out.trans (hB.mono B1.out.size))
          clear hB B1
          go_wp2_with fail
          refine (HS.out _).mono ?_; rintro e w3 ⟨rfl, hB⟩
          have B3 := hidH (B2.out.trans (hB.mono B2.out.size))
          clear hB B2
          go_wp2_with fail
          refine (HVC.out _).mono ?_; rintro e w4 ⟨rfl, hB⟩
          have B4 := hidH (B3.out.trans (hB.mono B3.out.size))
          clear hB B3
          go_wp2_with fail
          refine (HVA.out _).mono ?_; rintro e w5 ⟨rfl, hB⟩
          have B5 := hidH (B4.out.trans (hB.mono B4.out.size))
          clear hB B4
          go_wp2
          go_loopw [11, 12] (fun d i wr => ∃ (k : Nat) (D : Int), k ≤ s.size ∧ i = .int .i64 k ∧ d = .int .i64 D ∧ 0 ≤ D ∧ D ≤ 9 * k ∧ D % 9 = val (s.data.toList.take k) % 9 ∧ Below w.heap.size w wr) (fun _ i _ => s.size - (intOf i).toNat)
          case atStart => exact ⟨0, 0, Nat.zero_le _, rfl, rfl, by omega, by omega, rfl, B5.out⟩
          case round =>
            obtain ⟨k, D, hk, rfl, rfl, D0, D1, hD, hB⟩ := hrel
            have B6 := hidH hB
            have HD := hidH hD
            clear hB hD B5
            by_cases hlt : k < s.size
            · have ⟨ht, x0, x1⟩ := HT.out k hlt
              have HV := hidH ht
              clear ht HC HS HVC HVA k9 k11
              go_wp2
              go_roundw
              case rel =>
                refine ⟨k + 1, D + (s[k].toNat : Int) - 48, by omega, by go_num, by go_num, by omega, by omega, ?_, B6.out⟩
                have h1 := HV.out
                have h2 := HD.out
                rw [h1]
                omega
              case measure => simp [intOf]; omega
            · obtain rfl : k = s.size := by omega
              have hDp : D % 9 = p := by rw [HD.out, ← HF9.out]
              have hDt : D.tmod 9 = p := by rw [Int.tmod_eq_emod_of_nonneg D0]; exact hDp
              have hpp : (p == p) = true := beq_self_eq_true p
              go_wp2_with fail
              refine (HNA.out _).mono ?_; rintro e w7 ⟨rfl, hB⟩
              have B7 := hidH (B6.out.trans (hB.mono B6.out.size))
              clear hB B6
              go_wp2_with fail
              refine (HNA.out _).mono ?_; rintro e w8 ⟨rfl, hB⟩
              have B8 := hidH (B7.out.trans (hB.mono B7.out.size))
              clear hB B7
              go_wp2_with fail
              refine (HNB.out _).mono ?_; rintro e w9 ⟨rfl, hB⟩
              have B9 := hidH (B8.out.trans (hB.mono B8.out.size))
              clear hB B8
              go_wp2_with fail
              refine (HNC.out _).mono ?_; rintro e w10 ⟨rfl, hB⟩
              have B10 := hidH (B9.out.trans (hB.mono B9.out.size))
              clear hB B9
              go_wp2_with fail
              refine (HEA.out _).mono ?_; rintro e w11 ⟨rfl, hB⟩
              have B11 := hidH (B10.out.trans (hB.mono B10.out.size))
              clear hB B10
              go_wp2_with fail
              refine (HEB.out _).mono ?_; rintro e w12 ⟨rfl, hB⟩
              have B12 := hidH (B11.out.trans (hB.mono B11.out.size))
              clear hB B11
              go_wp2_with fail
              refine (HEC.out _).mono ?_; rintro e w13 ⟨rfl, hB⟩
              have B13 := hidH (B12.out.trans (hB.mono B12.out.size))
              clear hB B12
              go_wp2
              go_ret
              exact ⟨rfl, B13.out⟩
end Go.Proofs.YtfadmifadkknnaaDoor
