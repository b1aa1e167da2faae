/-
  The walks of laws of one column: ColumnOf, WidenColumn and NegateColumn. No conditions but that the bytes that came in can be read.
-/
import Derived.Test.YtoannmpbjaaaoaaDoorKitE
import Derived.Test.YtoannmpbjaaaoaaDoorMathD
import Derived.Test.YtoannmpbjaaaoaaDoorSNegate
import Derived.Test.YtoannmpbjaaaoaaDoorWidthFor
namespace Go.Proofs.YtoannmpbjaaaoaaDoor
open Go.RowKit
/-- ColumnOf answers a text that shows the number, or none. -/
theorem colA_cases (n wi : Int) : ((decide (1 ≤ wi ∧ wi ≤ 12) && fits n wi.toNat) = false ∧ colA n wi = .tuple #[.string ⟨#[]⟩, .bool false]) ∨ ∃ wd : Nat, wi = wd ∧ 1 ≤ wd ∧ wd ≤ 12 ∧ fits n wd = true ∧ colA n wi = .tuple #[.string (showS n wd), .bool true] := by
  unfold colA
  cases h : (decide (1 ≤ wi ∧ wi ≤ 12) && fits n wi.toNat)
  · left; exact ⟨rfl, by simp⟩
  · right
    rw [Bool.and_eq_true, decide_eq_true_eq] at h
    obtain ⟨⟨h1, h2⟩, h3⟩ := h
    obtain ⟨wd, rfl⟩ := Int.eq_ofNat_of_zero_le (show 0 ≤ wi by omega)
    exact ⟨wd, rfl, by omega, by omega, h3, by simp [showS]⟩
set_option maxHeartbeats 800000 in
theorem lawColumnOf (a : Option Addr) (len cap : Nat) (w : World) (hc : Came w a len cap) : Calls Tryd.prog 3 #[.slice a len cap] w (Gives (.bool true) w) := by
  obtain ⟨hcap, hcap2, hb, hnil⟩ := hc
  unfold maxLen at hcap2
  by_cases hbig : 1048576 < len
  · clear hb hnil
    go_enter Tryd.func3, Tryd.ntmps3
    go_wp2
    go_ret
    exact ⟨rfl, Below.refl _ _⟩
  · have HD := hidH (drawColumnOf_any a len cap w (by omega) hcap hcap2 hb hnil)
    clear hb hnil
    go_enter Tryd.func3, Tryd.ntmps3
    go_wp2_with fail
    refine HD.out.mono ?_
    rintro e w1 ⟨n, wi, rfl, hB⟩
    have B1 := hidH hB
    clear hB HD
    have HC := hidH fun w => col_any n wi w
    have HS := hidH fun w => sCol_any n wi w
    rcases colA_cases n wi with ⟨_, e⟩ | ⟨wd, rfl, l1, l2, hf, e⟩
    · rw [e] at HC HS
      clear e
      go_wp2_with fail
      refine (HC.out _).mono ?_; rintro e w2 ⟨rfl, hB⟩
      have B2 := hidH (B1.out.trans (hB.mono B1.out.size))
      clear hB B1
      go_wp2_with fail
      refine (HS.out _).mono ?_; rintro e w3 ⟨rfl, hB⟩
      have B3 := hidH (B2.out.trans (hB.mono B2.out.size))
      clear hB B2
      go_wp2
      go_ret
      exact ⟨rfl, B3.out⟩
    · rw [e] at HC HS
      clear e
      have hT := showS_size n wd
      have HG := hidH fun w => signed_yes (showS n wd) (by omega) w (showS_ok n wd l1 l2)
      rw [sgnS_show n wd l1 hf] at HG
      have HV := hidH fun w => valid_yes (showS n wd) (by omega) w (showS_ok n wd l1 l2)
      have HN := hidH (high_neg n wd l1 l2 hf)
      clear hf
      generalize showS n wd = T at *
      have hTe : ((T.size : Int) == (wd : Int)) = true := beq_iff_eq.2 (by omega)
      go_wp2_with fail
      refine (HC.out _).mono ?_; rintro e w2 ⟨rfl, hB⟩
      have B2 := hidH (B1.out.trans (hB.mono B1.out.size))
      clear hB B1
      go_wp2_with fail
      refine (HS.out _).mono ?_; rintro e w3 ⟨rfl, hB⟩
      have B3 := hidH (B2.out.trans (hB.mono B2.out.size))
      clear hB B2
      go_wp2_with fail
      refine (HG.out _).mono ?_; rintro e w4 ⟨rfl, hB⟩
      have B4 := hidH (B3.out.trans (hB.mono B3.out.size))
      clear hB B3
      go_wp2_with fail
      refine (HV.out _).mono ?_; rintro e w5 ⟨rfl, hB⟩
      have B5 := hidH (B4.out.trans (hB.mono B4.out.size))
      clear hB B4
      have hpos : 0 < T.size := by omega
      have hq := HN.out hpos
      by_cases h0 : n < 0
      · have hq2 := hq.2 h0
        go_wp2
        go_ret
        refine ⟨?_, B5.out⟩
        show Ending.returned (.bool (decide (53 ≤ (T[0].toNat : Int)))) = _
        rw [decide_eq_true hq2]
      · have hq2 : ¬ 53 ≤ (T[0].toNat : Int) := fun h => h0 (hq.1 h)
        go_wp2
        go_ret
        refine ⟨?_, B5.out⟩
        show Ending.returned (.bool (decide (n < 0) == decide (53 ≤ (T[0].toNat : Int)))) = _
        rw [decide_eq_false (show ¬ 53 ≤ (T[0].toNat : Int) by omega), decide_eq_false (show ¬ n < 0 by omega)]
        rfl
set_option maxHeartbeats 1600000 in
theorem lawWiden (a : Option Addr) (len cap : Nat) (w : World) (hc : Came w a len cap) : Calls Tryd.prog 4 #[.slice a len cap] w (Gives (.bool true) w) := by
  obtain ⟨hcap, hcap2, hb, hnil⟩ := hc
  unfold maxLen at hcap2
  by_cases hbig : 1048576 < len
  · clear hb hnil
    go_enter Tryd.func4, Tryd.ntmps4
    go_wp2
    go_ret
    exact ⟨rfl, Below.refl _ _⟩
  · have HD := hidH (drawWidenColumn_any a len cap w (by omega) hcap hcap2 hb hnil)
    clear hb hnil
    go_enter Tryd.func4, Tryd.ntmps4
    go_wp2_with fail
    refine HD.out.mono ?_
    rintro e w1 ⟨s, wi, hs, rfl, hB⟩
    have B1 := hidH hB
    clear hB HD
    cases hk : ok s
    · have HC := hidH fun w => widen_no s (by omega) w wi hk
      have HS := hidH fun w => sWiden_no s (by omega) w wi hk
      have HG := hidH fun w => signed_no s (by omega) w hk
      clear hk
      go_wp2_with fail
      refine (HC.out _).mono ?_; rintro e w2 ⟨rfl, hB⟩
      have B2 := hidH (B1.out.trans (hB.mono B1.out.size))
      clear hB B1
      go_wp2_with fail
      refine (HS.out _).mono ?_; rintro e w3 ⟨rfl, hB⟩
      have B3 := hidH (B2.out.trans (hB.mono B2.out.size))
      clear hB B2
      go_wp2_with fail
      refine (HG.out _).mono ?_; rintro e w4 ⟨rfl, hB⟩
      have B4 := hidH (B3.out.trans (hB.mono B3.out.size))
      clear hB B3
      go_wp2
      go_ret
      exact ⟨rfl, B4.out⟩
    · have HC := hidH fun w => widen_yes s (by omega) w wi hk
      have HS := hidH fun w => sWiden_yes s (by omega) w wi hk
      have HG := hidH fun w => signed_yes s (by omega) w hk
      have HW := hidH fun w => widthFor_any (sgnS s) w
      have HF := hidH (sgnS_fits s hk)
      have hp : 0 < widthN (sgnS s) ∧ widthN (sgnS s) ≤ s.size := by
        have ⟨_, l1, l2⟩ := (ok_iff s).1 hk
        have h := fits_width (sgnS s) s.size l1 l2
        rw [HF.out] at h
        have h := Bool.and_eq_true_iff.1 h.symm
        exact ⟨of_decide_eq_true h.1, of_decide_eq_true h.2⟩
      have hw12 := widthN_le (sgnS s)
      rcases colA_cases (sgnS s) wi with ⟨hno, e⟩ | ⟨wd, rfl, l1, l2, hf, e⟩
      · rw [e] at HC HS
        clear e
        have hno2 : 1 ≤ wi → wi ≤ 12 → wi < widthN (sgnS s) := by
          intro h1 h2
          obtain ⟨k, rfl⟩ := Int.eq_ofNat_of_zero_le (show 0 ≤ wi by omega)
          rw [decide_eq_true ⟨h1, h2⟩, Bool.true_and, Int.toNat_natCast, fits_width _ k (by omega) (by omega), decide_eq_true hp.1, Bool.true_and] at hno
          have := of_decide_eq_false hno
          omega
        clear hno hk HF
        generalize sgnS s = n at *
        generalize widthN n = v at *
        go_wp2_with fail
        refine (HC.out _).mono ?_; rintro e w2 ⟨rfl, hB⟩
        have B2 := hidH (B1.out.trans (hB.mono B1.out.size))
        clear hB B1
        go_wp2_with fail
        refine (HS.out _).mono ?_; rintro e w3 ⟨rfl, hB⟩
        have B3 := hidH (B2.out.trans (hB.mono B2.out.size))
        clear hB B2
        go_wp2_with fail
        refine (HG.out _).mono ?_; rintro e w4 ⟨rfl, hB⟩
        have B4 := hidH (B3.out.trans (hB.mono B3.out.size))
        clear hB B3
        by_cases h1 : 1 ≤ wi
        · by_cases h2 : wi ≤ 12
          · have h3 := hno2 h1 h2
            clear hno2
            go_wp2_with fail
            refine (HW.out _).mono ?_; rintro e w5 ⟨rfl, hB⟩
            have B5 := hidH (B4.out.trans (hB.mono B4.out.size))
            clear hB B4
            go_wp2_with fail
            refine (HW.out _).mono ?_; rintro e w6 ⟨rfl, hB⟩
            have B6 := hidH (B5.out.trans (hB.mono B5.out.size))
            clear hB B5
            go_wp2
            go_ret
            refine ⟨?_, B6.out⟩
            show Ending.returned (.bool (!decide ((v : Int) ≤ wi))) = _
            rw [decide_eq_false (by omega)]
            rfl
          · clear hno2
            go_wp2
            go_ret
            exact ⟨rfl, B4.out⟩
        · clear hno2
          go_wp2
          go_ret
          exact ⟨rfl, B4.out⟩
      · rw [e] at HC HS
        clear e
        have hvw : widthN (sgnS s) ≤ wd := by
          have h := fits_width (sgnS s) wd l1 l2
          rw [hf] at h
          exact of_decide_eq_true (Bool.and_eq_true_iff.1 h.symm).2
        have hT := showS_size (sgnS s) wd
        have HT := hidH fun w => signed_yes (showS (sgnS s) wd) (by omega) w (showS_ok (sgnS s) wd l1 l2)
        have HR := hidH fun w => widen_yes (showS (sgnS s) wd) (by omega) w s.size (showS_ok (sgnS s) wd l1 l2)
        rw [sgnS_show (sgnS s) wd l1 hf] at HT HR
        have hcb : colA (sgnS s) s.size = .tuple #[.string s, .bool true] := by
          have ⟨_, g1, g2⟩ := (ok_iff s).1 hk
          rw [colA_yes (sgnS s) s.size g1 g2 HF.out]
          show Value.tuple #[.string (showS (sgnS s) s.size), .bool true] = _
          rw [showS_sgn s hk]
        rw [hcb] at HR
        clear hcb hk HF hf
        generalize showS (sgnS s) wd = T at *
        generalize sgnS s = n at *
        generalize widthN n = v at *
        go_wp2_with fail
        refine (HC.out _).mono ?_; rintro e w2 ⟨rfl, hB⟩
        have B2 := hidH (B1.out.trans (hB.mono B1.out.size))
        clear hB B1
        go_wp2_with fail
        refine (HS.out _).mono ?_; rintro e w3 ⟨rfl, hB⟩
        have B3 := hidH (B2.out.trans (hB.mono B2.out.size))
        clear hB B2
        go_wp2_with fail
        refine (HG.out _).mono ?_; rintro e w4 ⟨rfl, hB⟩
        have B4 := hidH (B3.out.trans (hB.mono B3.out.size))
        clear hB B3
        go_wp2_with fail
        refine (HW.out _).mono ?_; rintro e w5 ⟨rfl, hB⟩
        have B5 := hidH (B4.out.trans (hB.mono B4.out.size))
        clear hB B4
        go_wp2_with fail
        refine (HR.out _).mono ?_; rintro e w6 ⟨rfl, hB⟩
        have B6 := hidH (B5.out.trans (hB.mono B5.out.size))
        clear hB B5
        go_wp2_with fail
        refine (HT.out _).mono ?_; rintro e w7 ⟨rfl, hB⟩
        have B7 := hidH (B6.out.trans (hB.mono B6.out.size))
        clear hB B6
        go_wp2
        go_ret
        exact ⟨rfl, B7.out⟩
theorem neg_facts (s : ByteArray) (h : ok s = true) : ok (showS (-valS s) s.size) = true ∧ (showS (-valS s) s.size).size = s.size ∧ valS (sumS s (showS (-valS s) s.size)) = 0 ∧ showS (-valS (showS (-valS s) s.size)) s.size = s := by
  have ⟨_, l1, l2⟩ := (ok_iff s).1 h
  refine ⟨showS_ok _ _ l1 l2, showS_size _ _, ?_, ?_⟩
  · rw [sumS, showS_val, showS_val, Int.add_emod_emod, Int.add_right_neg, Int.zero_emod]
  · rw [showS_val, show showS (-(-valS s % tenP s.size)) s.size = showS (valS s) s.size from ?_, showS_of s h]
    apply showS_congr
    have h2 := Int.emod_add_mul_ediv (-valS s) (tenP s.size)
    have e : -(-valS s % tenP s.size) = - -valS s + tenP s.size * (-valS s / tenP s.size) := by omega
    rw [Int.neg_neg] at e
    rw [e, Int.add_mul_emod_self_left]
/-- A column's highest digit, and what the others show. -/
theorem high_split (s : ByteArray) (h : ok s = true) (hp : 0 < s.size) : ∃ r P : Int, 0 ≤ r ∧ r < P ∧ tenP s.size = 10 * P ∧ valS s = r + P * ((s[0].toNat : Int) - 48) ∧ 48 ≤ (s[0].toNat : Int) ∧ (s[0].toNat : Int) ≤ 57 := by
  have ⟨hd, l1, l2⟩ := (ok_iff s).1 h
  have hg := get_at s 0 hp
  have hl := size_len s
  unfold valS
  generalize s[0] = c at *
  generalize s.data.toList = l at *
  cases l with
  | nil => simp at hg
  | cons d t =>
    simp only [List.getElem?_cons_zero, Option.some.injEq] at hg
    subst hg
    have ht : ∀ c ∈ t, 48 ≤ (c.toNat : Int) ∧ (c.toNat : Int) ≤ 57 := fun c hc => hd c (List.mem_cons_of_mem _ hc)
    have ⟨b0, b1⟩ := val_bd t ht
    have e : val (d :: t) = val t + tenP t.length * ((d.toNat : Int) - 48) := by
      unfold val
      have : dg (d :: t) = dg t ++ [(d.toNat : Int) - 48] := by simp [dg]
      rw [this, num_append, dg_length]
      simp [num]
    have hs : s.size = t.length + 1 := by rw [← hl]; rfl
    have ⟨x1, x2⟩ := hd d List.mem_cons_self
    exact ⟨val t, tenP t.length, b0, b1, by rw [hs]; rfl, e, x1, x2⟩
/-- The signs of opposite columns. -/
theorem neg_sign (s : ByteArray) (h : ok s = true) (hp : 0 < s.size) : sgnS (showS (-valS s) s.size) = -sgnS s ∨ (sgnS (showS (-valS s) s.size) = sgnS s ∧ (s[0].toNat : Int) = 53) := by
  have ⟨v0, v1, l1, l2, t⟩ := valS_bd s h
  have ⟨te, t5⟩ := tenP_even s.size l1
  obtain ⟨r, P, r0, r1, ep, ev, x1, x2⟩ := high_split s h hp
  unfold sgnS
  rw [showS_val, showS_size]
  by_cases hz : valS s = 0
  · left
    rw [hz, Int.neg_zero, Int.zero_emod, if_neg (by omega)]
    rfl
  · have e : -valS s % tenP s.size = tenP s.size - valS s := by
      rw [← Int.add_emod_right, Int.emod_eq_of_lt (by omega) (by omega)]; omega
    rw [e]
    generalize tenP s.size / 2 = H at *
    by_cases h1 : valS s < H
    · left
      rw [if_neg (show ¬ H ≤ valS s by omega), if_pos (by omega)]; omega
    · by_cases h2 : valS s = H
      · right
        rw [if_pos (show H ≤ valS s by omega), if_pos (by omega)]
        refine ⟨by omega, ?_⟩
        generalize (s[0].toNat : Int) = x at *
        have hx : x = 48 ∨ x = 49 ∨ x = 50 ∨ x = 51 ∨ x = 52 ∨ x = 53 ∨ x = 54 ∨ x = 55 ∨ x = 56 ∨ x = 57 := by omega
        rcases hx with rfl | rfl | rfl | rfl | rfl | rfl | rfl | rfl | rfl | rfl <;> omega
      · left
        rw [if_pos (show H ≤ valS s by omega), if_neg (by omega)]; omega
set_option maxHeartbeats 1600000 in
theorem lawNegate (a : Option Addr) (len cap : Nat) (w : World) (hc : Came w a len cap) : Calls Tryd.prog 5 #[.slice a len cap] w (Gives (.bool true) w) := by
  obtain ⟨hcap, hcap2, hb, hnil⟩ := hc
  unfold maxLen at hcap2
  by_cases hbig : 1048576 < len
  · clear hb hnil
    go_enter Tryd.func5, Tryd.ntmps5
    go_wp2
    go_ret
    exact ⟨rfl, Below.refl _ _⟩
  · have HD := hidH (drawNegateColumn_any a len cap w (by omega) hcap hcap2 hb hnil)
    clear hb hnil
    go_enter Tryd.func5, Tryd.ntmps5
    go_wp2_with fail
    refine HD.out.mono ?_
    rintro e w1 ⟨s, hs, rfl, hB⟩
    have B1 := hidH hB
    clear hB HD
    cases hk : ok s
    · have HC := hidH fun w => negate_no s (by omega) w hk
      have HS := hidH fun w => sNegate_no s (by omega) w hk
      clear hk
      go_wp2_with fail
      refine (HC.out _).mono ?_; rintro e w2 ⟨rfl, hB⟩
      have B2 := hidH (B1.out.trans (hB.mono B1.out.size))
      clear hB B1
      go_wp2_with fail
      refine (HS.out _).mono ?_; rintro e w3 ⟨rfl, hB⟩
      have B3 := hidH (B2.out.trans (hB.mono B2.out.size))
      clear hB B2
      go_wp2
      go_ret
      exact ⟨rfl, B3.out⟩
    · obtain ⟨okd, szd, hz, hb⟩ := neg_facts s hk
      have ⟨_, g1, g2⟩ := (ok_iff s).1 hk
      have hpos : 0 < s.size := g1
      have HC : Hid (∀ w, Calls Tryd.prog 19 #[.string s] w (Gives (.tuple #[.string (showS (-valS s) s.size), .bool true]) w)) := hidH fun w => negate_yes s (by omega) w hk
      have HS : Hid (∀ w, Calls Tryd.prog 20 #[.string s] w (Gives (.tuple #[.string (showS (-valS s) s.size), .bool true]) w)) := hidH fun w => sNegate_yes s (by omega) w hk
      have HA := hidH fun w => addS_yes s (showS (-valS s) s.size) w hk okd szd.symm
      have HB : Hid (∀ w, Calls Tryd.prog 19 #[.string (showS (-valS s) s.size)] w (Gives (.tuple #[.string s, .bool true]) w)) := hidH fun w => by
        have h := negate_yes (showS (-valS s) s.size) (by omega) w okd
        have e : (⟨(showB (-valS (showS (-valS s) s.size)) (showS (-valS s) s.size).size).toArray⟩ : ByteArray) = s := by
          rw [szd]; exact hb
        rw [e] at h
        exact h
      have HG := hidH fun w => signed_yes s (by omega) w hk
      have HH := hidH fun w => signed_yes (showS (-valS s) s.size) (by omega) w okd
      have oks : ok (sumS s (showS (-valS s) s.size)) = true := showS_ok _ _ g1 g2
      have sss : (sumS s (showS (-valS s) s.size)).size ≤ 12 := by rw [sumS, showS_size]; exact g2
      have HV := hidH fun w => value_yes (sumS s (showS (-valS s) s.size)) (by omega) w oks
      rw [hz] at HV
      have hsign := neg_sign s hk hpos
      have hnb : -1000000000000 ≤ sgnS s ∧ sgnS s ≤ 1000000000000 := by
        have ⟨f1, f2⟩ := (fits_iff _ _).1 (sgnS_fits s hk)
        have := tenP_12 s.size g2
        omega
      clear hz hb oks okd hk
      generalize sumS s (showS (-valS s) s.size) = U at *
      generalize showS (-valS s) s.size = T at *
      generalize sgnS T = m at *
      generalize sgnS s = n at *
      go_wp2_with fail
      refine (HC.out _).mono ?_; rintro e w2 ⟨rfl, hB⟩
      have B2 := hidH (B1.out.trans (hB.mono B1.out.size))
      clear hB B1
      go_wp2_with fail
      refine (HS.out _).mono ?_; rintro e w3 ⟨rfl, hB⟩
      have B3 := hidH (B2.out.trans (hB.mono B2.out.size))
      clear hB B2
      go_wp2_with fail
      refine (HA.out _).mono ?_; rintro e w4 ⟨rfl, hB⟩
      have B4 := hidH (B3.out.trans (hB.mono B3.out.size))
      clear hB B3
      go_wp2_with fail
      refine (HB.out _).mono ?_; rintro e w5 ⟨rfl, hB⟩
      have B5 := hidH (B4.out.trans (hB.mono B4.out.size))
      clear hB B4
      go_wp2_with fail
      refine (HG.out _).mono ?_; rintro e w6 ⟨rfl, hB⟩
      have B6 := hidH (B5.out.trans (hB.mono B5.out.size))
      clear hB B5
      go_wp2_with fail
      refine (HH.out _).mono ?_; rintro e w7 ⟨rfl, hB⟩
      have B7 := hidH (B6.out.trans (hB.mono B6.out.size))
      clear hB B6
      go_wp2_with fail
      refine (HV.out _).mono ?_; rintro e w8 ⟨rfl, hB⟩
      have B8 := hidH (B7.out.trans (hB.mono B7.out.size))
      clear hB B7 HA HB HC HG HH HS HV
      by_cases hm : m = -n
      · subst hm
        clear hsign
        have hb1 : (-n == -n) = true := beq_iff_eq.2 rfl
        go_wp2
        go_ret
        exact ⟨rfl, B8.out⟩
      · obtain ⟨e1, e2⟩ := hsign.resolve_left hm
        subst e1
        have hb1 : (m == -m) = false := beq_eq_false_iff_ne.2 hm
        have hb2 : (m == m) = true := beq_iff_eq.2 rfl
        clear hsign
        go_wp2
        go_ret
        exact ⟨rfl, B8.out⟩
end Go.Proofs.YtoannmpbjaaaoaaDoor
