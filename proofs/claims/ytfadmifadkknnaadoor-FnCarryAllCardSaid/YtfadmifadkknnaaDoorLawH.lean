/-
  The walks of laws of turns and carries: turning all wheels and carrying gives the sum. No conditions but that the bytes that came in can be read.
-/
import Derived.Test.YtfadmifadkknnaaDoorKitE
import Derived.Test.YtfadmifadkknnaaDoorMathD
import Derived.Test.YtfadmifadkknnaaDoorRowJ
import Derived.Test.YtfadmifadkknnaaDoorSpecE
namespace Go.Proofs.YtfadmifadkknnaaDoor
open Go.RowKit
theorem allD_num (n : Nat) (f : Nat) : ∀ (k : Nat) (A M : List Int), A.length = n → M.length = n → digs A → digs M → lowZ k M → k + f = n → num (allD f A M).1 = (num A + 10 * num M) % tenP n := by
  induction f with
  | zero =>
    intro k A M hA hM dA dM hz hk
    have hz0 : num M = 0 := lowZ_num M (by rw [hM, ← hk]; exact hz)
    have ⟨b0, b1⟩ := num_bd A dA
    rw [hA] at b1
    show num A = _
    rw [hz0, Int.mul_zero, Int.add_zero, Int.emod_eq_of_lt b0 b1]
  | succ f ih =>
    intro k A M hA hM dA dM hz hk
    by_cases h0 : num M = 0
    · have ⟨b0, b1⟩ := num_bd A dA
      rw [hA] at b1
      rw [allD_stop _ _ _ h0, h0, Int.mul_zero, Int.add_zero, Int.emod_eq_of_lt b0 b1]
    · have ul : (upD M).length = n := by rw [upD_length, hM]
      rw [allD_go _ _ _ h0]
      show num (allD f (turnD A (upD M)) (passD A (upD M))).1 = _
      rw [ih (k + 1) _ _ (by rw [turnD_length _ _ (by omega), hA]) (by rw [passD_length _ _ (by omega), hA]) (turnD_digs _ _) (flags_digs (passD_flags _ _ dA (upD_digs M dM))) (lowZ_pass k A M dA (by omega) hz) (by omega)]
      rw [num_turn A (upD M) (by omega), num_up M dM, hM, Int.add_emod_emod]
theorem allD_ahead (n : Nat) (A M : List Int) (hA : A.length = n) (hM : M.length = n) (dA : digs A) (dM : digs M) : (allD n A M).1 = aheadD 0 A M := by
  have ⟨l1, d1⟩ := allD_facts n n A M hA hM dA
  refine num_inj _ _ d1 (aheadD_digs 0 A M) (by rw [l1, aheadD_length 0 A M (by omega), hA]) ?_
  rw [allD_num n n 0 A M hA hM dA dM (fun j d h => by omega) (by omega), num_ahead 0 A M (by omega), Int.add_zero, hA]
/-- What the functions of a pair answer. -/
structure TurnedAll (a b C M S : ByteArray) (n : Nat) : Prop where
  turn : ∀ w, Calls Tryd.prog 10 #[.string a, .string b] w (Gives (.tuple #[.string C, .bool true]) w)
  warn : ∀ w, Calls Tryd.prog 12 #[.string a, .string b] w (Gives (.tuple #[.string M, .bool true]) w)
  turnS : ∀ w, Calls Tryd.prog 11 #[.string a, .string b] w (Gives (.tuple #[.string C, .bool true]) w)
  warnS : ∀ w, Calls Tryd.prog 13 #[.string a, .string b] w (Gives (.tuple #[.string M, .bool true]) w)
  add : ∀ w, Calls Tryd.prog 14 #[.string a, .string b] w (Gives (.tuple #[.string S, .bool true]) w)
  times : ∀ w, Calls Tryd.prog 17 #[.string a, .string b] w (Gives (.int .i64 n) w)
  all : ∀ w, Calls Tryd.prog 15 #[.string C, .string M] w (Gives (.tuple #[.string S, .int .i64 n, .bool true]) w)
  ahead : ∀ w, Calls Tryd.prog 16 #[.string C, .string M] w (Gives (.tuple #[.string S, .bool true]) w)
theorem turned_of (a b : ByteArray) (h : pair a b = true) : ∃ n : Nat, TurnedAll a b (txtS (turnD (dgS a) (dgS b))) (txtS (passD (dgS a) (dgS b))) (txtS (aheadD 0 (turnD (dgS a) (dgS b)) (passD (dgS a) (dgS b)))) n := by
  obtain ⟨ha, hb, hab⟩ := (pair_iff a b).1 h
  have ⟨_, g1, g2⟩ := (ok_iff a).1 ha
  have ⟨da, la⟩ := dgS_facts a ha
  have ⟨db, lb⟩ := dgS_facts b hb
  obtain ⟨hf, s1, s2, d1, d2⟩ := turned_flags a b h
  have tl : (turnD (dgS a) (dgS b)).length = a.size := by rw [turnD_length _ _ (by omega), la]
  have pl : (passD (dgS a) (dgS b)).length = a.size := by rw [passD_length _ _ (by omega), la]
  have e := allD_ahead a.size _ _ tl pl (turnD_digs _ _) (flags_digs (passD_flags _ _ da db))
  refine ⟨(allD a.size (turnD (dgS a) (dgS b)) (passD (dgS a) (dgS b))).2, ⟨fun w => turnW_yes a b w (by omega) (by omega) h, fun w => warnW_yes a b w (by omega) (by omega) h, fun w => sTurn_yes a b (by omega) (by omega) w h, fun w => sWarn_yes a b (by omega) (by omega) w h, fun w => addC_yes a b w (by omega) (by omega) h, fun w => timesC_yes a b w (by omega) (by omega) h, fun w => ?_, fun w => ?_⟩⟩
  · have h := allC_yes _ _ w (by omega) (by omega) hf
    rw [s1, d1, d2, e] at h
    exact h
  · have h := aheadC_yes _ _ w (by omega) (by omega) hf
    rw [d1, d2] at h
    exact h
set_option maxHeartbeats 1600000 in
theorem lawTurnCarry (a : Option Addr) (len cap : Nat) (w : World) (hc : Came w a len cap) : Calls Tryd.prog 3 #[.slice a len cap] w (Gives (.bool true) w) := by
  obtain ⟨hcap, hcap2, hb, hnil⟩ := hc
  unfold maxLen at hcap2
  by_cases hbig : 1048576 < len
  · clear hb hnil
    go_enter Tryd.func3, Tryd.ntmps3
    go_wp2
    go_ret
    exact ⟨rfl, Below.refl _ _⟩
  · have HD := hidH (drawTurnWheels_any a len cap w (by omega) hcap hcap2 hb hnil)
    clear hb hnil
    go_enter Tryd.func3, Tryd.ntmps3
    go_wp2_with fail
    refine HD.out.mono ?_
    rintro e w1 ⟨s, t, hs, ht, rfl, hB⟩
    have B1 := hidH hB
    clear hB HD
    cases hk : pair s t
    · have HC := hidH fun w => turnW_no s t w (by omega) (by omega) hk
      have HS := hidH fun w => sTurn_no s t (by omega) (by omega) w hk
      clear hk
      go_wp2_with fail
      refine (HC.out _).mono ?_; rintro e w2 ⟨rfl, hB⟩
      have B2 := hidH (B1.out.trans (hB.mono B1.out.size))
      clear hB B1
      go_wp2_with fail
      refine (HS.out _).mono ?_; rintro e w3 ⟨rfl, hB⟩
      have B3 := hidH (B2.out.trans (hB.mono B2.out.size))
      clear hB B2
      go_wp2
      go_ret
      exact ⟨rfl, B3.out⟩
    · obtain ⟨n, HT⟩ := turned_of s t hk
      have H1 := hidH HT.turn
      have H2 := hidH HT.turnS
      have H3 := hidH HT.warn
      have H4 := hidH HT.warnS
      have H5 := hidH HT.add
      have H6 := hidH HT.all
      have H7 := hidH HT.ahead
      have H8 := hidH HT.times
      clear HT hk
      generalize txtS (aheadD 0 (turnD (dgS s) (dgS t)) (passD (dgS s) (dgS t))) = U at *
      generalize txtS (turnD (dgS s) (dgS t)) = C at *
      generalize txtS (passD (dgS s) (dgS t)) = M at *
      go_wp2_with fail
      refine (H1.out _).mono ?_; rintro e w2 ⟨rfl, hB⟩
      have B2 := hidH (B1.out.trans (hB.mono B1.out.size))
      clear hB B1
      go_wp2_with fail
      refine (H2.out _).mono ?_; rintro e w3 ⟨rfl, hB⟩
      have B3 := hidH (B2.out.trans (hB.mono B2.out.size))
      clear hB B2
      go_wp2_with fail
      refine (H3.out _).mono ?_; rintro e w4 ⟨rfl, hB⟩
      have B4 := hidH (B3.out.trans (hB.mono B3.out.size))
      clear hB B3
      go_wp2_with fail
      refine (H4.out _).mono ?_; rintro e w5 ⟨rfl, hB⟩
      have B5 := hidH (B4.out.trans (hB.mono B4.out.size))
      clear hB B4
      go_wp2_with fail
      refine (H5.out _).mono ?_; rintro e w6 ⟨rfl, hB⟩
      have B6 := hidH (B5.out.trans (hB.mono B5.out.size))
      clear hB B5
      go_wp2_with fail
      refine (H6.out _).mono ?_; rintro e w7 ⟨rfl, hB⟩
      have B7 := hidH (B6.out.trans (hB.mono B6.out.size))
      clear hB B6
      go_wp2_with fail
      refine (H7.out _).mono ?_; rintro e w8 ⟨rfl, hB⟩
      have B8 := hidH (B7.out.trans (hB.mono B7.out.size))
      clear hB B7
      go_wp2_with fail
      refine (H8.out _).mono ?_; rintro e w9 ⟨rfl, hB⟩
      have B9 := hidH (B8.out.trans (hB.mono B8.out.size))
      clear hB B8
      go_wp2
      go_ret
      exact ⟨rfl, B9.out⟩
end Go.Proofs.YtfadmifadkknnaaDoor
