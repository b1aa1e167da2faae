/-
  The walk of a law of carries: carries in sequence end after at most as many times as there are wheels, with the column that carrying at once gives. No conditions but that the bytes that came in can be read.
-/
import Derived.Test.YtfadmifadkknnaaDoorLawK
namespace Go.Proofs.YtfadmifadkknnaaDoor
open Go.RowKit
theorem SRounds.start (c m : ByteArray) (h : flagged c m = true) : SRounds c.size (dgS c) (dgS m) 0 c m :=
  ⟨Nat.zero_le _, fun j d hj => by omega, h, rfl, by rw [Nat.sub_zero], by rw [Nat.sub_zero, Nat.zero_add]⟩
/-- While times are left, a wheel is marked. -/
theorem SRounds.more {n : Nat} {A M : List Int} {k : Nat} {c m : ByteArray} (h : SRounds n A M k c m) (hk : k < (allD n A M).2) : num (dgS m) ≠ 0 := by
  intro h0
  have := h.cnt
  rw [allD_stop _ _ _ h0] at this
  simp at this
  omega
/-- When no time is left, no wheel is marked, and the column is the last one. -/
theorem SRounds.done {n : Nat} {A M : List Int} {k : Nat} {c m : ByteArray} (h : SRounds n A M k c m) (hk : k = (allD n A M).2) : num (dgS m) = 0 ∧ c = txtS (allD n A M).1 := by
  have hz : num (dgS m) = 0 := by
    by_cases h0 : num (dgS m) = 0
    · exact h0
    · obtain ⟨hlt, _⟩ := h.next h0
      obtain ⟨f, hf⟩ : ∃ f, n - k = f + 1 := ⟨n - k - 1, by omega⟩
      have := h.cnt
      rw [hf, allD_go _ _ _ h0] at this
      simp only at this
      omega
  refine ⟨hz, ?_⟩
  have hf := h.fin
  rw [allD_stop _ _ _ hz] at hf
  rw [← hf]
  exact (txtS_of c ((flagged_iff c m).1 h.flg).1).symm
theorem allD_le (f : Nat) : ∀ A M : List Int, (allD f A M).2 ≤ f := by
  induction f with
  | zero => intro A M; exact Nat.le_refl _
  | succ f ih =>
    intro A M
    rw [allD]
    split
    · exact Nat.zero_le _
    · exact Nat.succ_le_succ (ih _ _)
theorem mark_value (c m : ByteArray) (h : flagged c m = true) (w : World) : Calls Tryd.prog 24 #[.string m] w (Gives (.int .i64 (num (dgS m))) w) := by
  have ⟨hc, hm, hs, hf⟩ := flagged_facts c m h
  have ⟨_, l1, l2⟩ := (ok_iff m).1 hm
  exact value_yes m (by omega) w hm
set_option maxHeartbeats 1600000 in
theorem lawCarryAll (a : Option Addr) (len cap : Nat) (w : World) (hc : Came w a len cap) : Calls Tryd.prog 6 #[.slice a len cap] w (Gives (.bool true) w) := by
  obtain ⟨hcap, hcap2, hb, hnil⟩ := hc
  unfold maxLen at hcap2
  by_cases hbig : 1048576 < len
  · clear hb hnil
    go_enter Tryd.func6, Tryd.ntmps6
    go_wp2
    go_ret
    exact ⟨rfl, Below.refl _ _⟩
  · have HD := hidH (drawCarryAll_any a len cap w (by omega) hcap hcap2 hb hnil)
    clear hb hnil
    go_enter Tryd.func6, Tryd.ntmps6
    go_wp2_with fail
    refine HD.out.mono ?_
    rintro e w1 ⟨s, t, hs, ht, rfl, hB⟩
    have B1 := hidH hB
    clear hB HD
    cases hk : flagged s t
    · have HC := hidH fun w => allC_no s t w (by omega) (by omega) hk
      have HS := hidH fun w => sAll_no s t (by omega) (by omega) w hk
      clear hk
      go_wp2_with fail
      refine (HC.out _).mono ?_; rintro e w2 ⟨rfl, hB⟩
      have B2 := hidH (B1.out.trans (hB.mono B1.out.size))
      clear hB B1
      go_wp2_with fail
      refine (HS.out _).mono ?_; rintro e w3 ⟨rfl, hB⟩
      have B3 := hidH (B2.out.trans (hB.mono B2.out.size))
      clear hB B2
      go_wp2
      go_ret
      exact ⟨rfl, B3.out⟩
    · have HC := hidH fun w => allC_yes s t w (by omega) (by omega) hk
      have HS := hidH fun w => sAll_yes s t (by omega) (by omega) w hk
      change Hid (∀ w, Calls Tryd.prog 15 #[.string s, .string t] w (Gives (.tuple #[.string (txtS (allD s.size (dgS s) (dgS t)).1), .int .i64 (allD s.size (dgS s) (dgS t)).2, .bool true]) w)) at HC
      change Hid (∀ w, Calls Tryd.prog 23 #[.string s, .string t] w (Gives (.tuple #[.string (txtS (allD s.size (dgS s) (dgS t)).1), .int .i64 (allD s.size (dgS s) (dgS t)).2, .bool true]) w)) at HS
      have HA := hidH (carried_of s t hk ht).ahead
      have ⟨da, fb, la, lb, l1, l12⟩ := flag_facts s t hk
      rw [← allD_ahead s.size _ _ la lb da (flags_digs fb)] at HA
      have hle := allD_le s.size (dgS s) (dgS t)
      have HR := hidH (SRounds.start s t hk)
      clear da fb la lb hk
      generalize hAA : dgS s = AA at *
      generalize hMM : dgS t = MM at *
      generalize hSZ : s.size = sz at *
      obtain ⟨tot, htot⟩ : ∃ tot, tot = (allD sz AA MM).2 := ⟨_, rfl⟩
      have HT := hidH htot
      rw [← htot] at HC HS hle
      clear htot
      generalize hU : txtS (allD sz AA MM).1 = U at *
      have HU := hidH hU
      clear hU hAA hMM
      go_wp2_with fail
      refine (HC.out _).mono ?_; rintro e w2 ⟨rfl, hB⟩
      have B2 := hidH (B1.out.trans (hB.mono B1.out.size))
      clear hB B1
      go_wp2_with fail
      refine (HS.out _).mono ?_; rintro e w3 ⟨rfl, hB⟩
      have B3 := hidH (B2.out.trans (hB.mono B2.out.size))
      clear hB B2
      go_wp2
      go_loopw [11, 12, 13] (fun x y i wr => ∃ (k : Nat) (c m : ByteArray), x = .string c ∧ y = .string m ∧ i = .int .i64 k ∧ k ≤ tot ∧ SRounds sz AA MM k c m ∧ Below w.heap.size w wr) (fun _ _ i _ => tot - (intOf i).toNat)
      case atStart => exact ⟨0, s, t, rfl, rfl, rfl, Nat.zero_le _, HR.out, B3.out⟩
      case round =>
        obtain ⟨k, c, m, rfl, rfl, rfl, hk, hS, hB⟩ := hrel
        have B4 := hidH hB
        have RR := hidH hS
        clear hB B3 HR
        have HV := hidH fun w => mark_value c m hS.flg w
        have hms : m.size ≤ 100 := by
          have ⟨_, _, _, _, _, q12⟩ := flag_facts c m hS.flg
          have := ((flagged_iff c m).1 hS.flg).2.1
          omega
        have HQ := hidH (carried_of c m hS.flg hms).once
        clear hS hms
        by_cases hlt : k < tot
        · have hne := RR.out.more (by rw [← HT.out]; exact hlt)
          have hb : (num (dgS m) == 0) = false := beq_eq_false_iff_ne.2 hne
          have RN := hidH (RR.out.next hne).2
          clear hne RR
          generalize num (dgS m) = v at *
          generalize txtS (turnD (dgS c) (upD (dgS m))) = c2 at *
          generalize txtS (passD (dgS c) (upD (dgS m))) = m2 at *
          go_wp2_with fail
          refine (HV.out _).mono ?_; rintro e w5 ⟨rfl, hB⟩
          have B5 := hidH (B4.out.trans (hB.mono B4.out.size))
          clear hB B4
          go_wp2_with fail
          refine (HQ.out _).mono ?_; rintro e w6 ⟨rfl, hB⟩
          have B6 := hidH (B5.out.trans (hB.mono B5.out.size))
          clear hB B5
          go_wp2
          go_roundw
          case rel => exact ⟨k + 1, c2, m2, rfl, rfl, by go_num, by omega, RN.out, B6.out⟩
          case measure => simp [intOf]; omega
        · obtain rfl : k = tot := by omega
          obtain ⟨hz, hc⟩ := RR.out.done HT.out
          rw [hz] at HV
          rw [HU.out] at hc
          subst hc
          clear hz RR HQ HT HU
          go_wp2_with fail
          refine (HA.out _).mono ?_; rintro e w5 ⟨rfl, hB⟩
          have B5 := hidH (B4.out.trans (hB.mono B4.out.size))
          clear hB B4
          go_wp2_with fail
          refine (HV.out _).mono ?_; rintro e w6 ⟨rfl, hB⟩
          have B6 := hidH (B5.out.trans (hB.mono B5.out.size))
          clear hB B5
          go_wp2
          go_ret
          exact ⟨rfl, B6.out⟩
end Go.Proofs.YtfadmifadkknnaaDoor
