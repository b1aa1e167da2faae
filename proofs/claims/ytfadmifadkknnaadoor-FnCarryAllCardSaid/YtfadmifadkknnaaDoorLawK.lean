/-
  The walks of laws of carries: carrying at once after one time of carries gives the same as before it, and carries in sequence come to an end with the column that carrying at once gives. No conditions but that the bytes that came in can be read.
-/
import Derived.Test.YtfadmifadkknnaaDoorKitF
import Derived.Test.YtfadmifadkknnaaDoorLawH
import Derived.BigRegion
namespace Go.Proofs.YtfadmifadkknnaaDoor
open Go.RowKit
/-- One time of carries changes nothing in what carrying at once gives. -/
theorem once_ahead (A M : List Int) (hl : A.length = M.length) (dA : digs A) (dM : digs M) : aheadD 0 (turnD A (upD M)) (passD A (upD M)) = aheadD 0 A M := by
  have ul : (upD M).length = A.length := by rw [upD_length, hl]
  have tl : (turnD A (upD M)).length = A.length := turnD_length _ _ (by omega)
  have pl : (passD A (upD M)).length = A.length := passD_length _ _ (by omega)
  refine num_inj _ _ (aheadD_digs _ _ _) (aheadD_digs _ _ _) (by rw [aheadD_length _ _ _ (by omega), aheadD_length _ _ _ (by omega), tl]) ?_
  rw [num_ahead _ _ _ (by omega), num_ahead _ _ _ (by omega), tl, Int.add_zero, Int.add_zero, num_turn A (upD M) (by omega), num_up M dM, ← hl, Int.add_emod_emod]
/-- What the functions of a column and of marks answer. -/
structure Carried1 (c m d k S : ByteArray) : Prop where
  once : ∀ w, Calls Tryd.prog 20 #[.string c, .string m] w (Gives (.tuple #[.string d, .string k, .bool true]) w)
  onceS : ∀ w, Calls Tryd.prog 21 #[.string c, .string m] w (Gives (.tuple #[.string d, .string k, .bool true]) w)
  ahead : ∀ w, Calls Tryd.prog 16 #[.string c, .string m] w (Gives (.tuple #[.string S, .bool true]) w)
  ahead2 : ∀ w, Calls Tryd.prog 16 #[.string d, .string k] w (Gives (.tuple #[.string S, .bool true]) w)
  flg : flagged d k = true
theorem once_flags (c m : ByteArray) (h : flagged c m = true) : flagged (txtS (turnD (dgS c) (upD (dgS m)))) (txtS (passD (dgS c) (upD (dgS m)))) = true ∧ (txtS (turnD (dgS c) (upD (dgS m)))).size = c.size ∧ (txtS (passD (dgS c) (upD (dgS m)))).size = c.size ∧ dgS (txtS (turnD (dgS c) (upD (dgS m)))) = turnD (dgS c) (upD (dgS m)) ∧ dgS (txtS (passD (dgS c) (upD (dgS m)))) = passD (dgS c) (upD (dgS m)) := by
  have ⟨da, fb, la, lb, l1, l12⟩ := flag_facts c m h
  have ul : (upD (dgS m)).length = c.size := by rw [upD_length, lb]
  have ud := upD_digs _ (flags_digs fb)
  have tl : (turnD (dgS c) (upD (dgS m))).length = c.size := by rw [turnD_length _ _ (by omega), la]
  have pl : (passD (dgS c) (upD (dgS m))).length = c.size := by rw [passD_length _ _ (by omega), la]
  have td := turnD_digs (dgS c) (upD (dgS m))
  have pf := passD_flags _ _ da ud
  refine ⟨?_, by rw [txtS_size, tl], by rw [txtS_size, pl], txtS_dg _ td, txtS_dg _ (flags_digs pf)⟩
  rw [flagged_iff, txtS_size, txtS_size]
  exact ⟨txtS_ok _ td (by omega) (by omega), by omega, txtS_marks _ pf⟩
theorem carried_of (c m : ByteArray) (h : flagged c m = true) (hm : m.size ≤ 100) : Carried1 c m (txtS (turnD (dgS c) (upD (dgS m)))) (txtS (passD (dgS c) (upD (dgS m)))) (txtS (aheadD 0 (dgS c) (dgS m))) := by
  have ⟨da, fb, la, lb, l1, l12⟩ := flag_facts c m h
  obtain ⟨hf, s1, s2, d1, d2⟩ := once_flags c m h
  refine ⟨fun w => onceC_yes c m w (by omega) (by omega) h, fun w => sOnce_yes c m (by omega) (by omega) w h, fun w => aheadC_yes c m w (by omega) (by omega) h, fun w => ?_, hf⟩
  have h2 := aheadC_yes _ _ w (by omega) (by omega) hf
  rw [d1, d2, once_ahead _ _ (by omega) da (flags_digs fb)] at h2
  exact h2
theorem last_of (s : ByteArray) (d : Int) (ds : List Int) (h : s.data.toList = txt (d :: ds)) (k : Nat) (hs : s.size = k + 1) (hk : k < s.size) : s[k] = chr d := by
  have hg := get_at s k hk
  have hl : ds.length = k := by
    have := size_len s
    rw [h, txt_length, hs] at this
    simpa using this
  rw [h, txt_cons, List.getElem?_append_right (by rw [txt_length]; omega), txt_length, hl, Nat.sub_self] at hg
  exact (Option.some.inj hg).symm
/-- The lowest wheel. -/
theorem low_wheel (c m : ByteArray) (h : flagged c m = true) (k : Nat) (hk : c.size = k + 1) (h1 : k < c.size) (h2 : k < (txtS (turnD (dgS c) (upD (dgS m)))).size) (h3 : k < (txtS (passD (dgS c) (upD (dgS m)))).size) : (txtS (turnD (dgS c) (upD (dgS m))))[k] = c[k] ∧ ((txtS (passD (dgS c) (upD (dgS m))))[k].toNat : Int) = 48 := by
  have ⟨da, fb, la, lb, l1, l12⟩ := flag_facts c m h
  obtain ⟨hf, s1, s2, _, _⟩ := once_flags c m h
  have hok := ((flagged_iff c m).1 h).1
  have ec := txtS_of c hok
  have e0 : c.data.toList = txt (dgS c) := by
    have ⟨hd, _, _⟩ := (ok_iff c).1 hok
    unfold dgS
    rw [txt_dg _ hd]
  generalize dgS c = C at *
  generalize dgS m = M at *
  cases C with
  | nil => simp at la; omega
  | cons c0 C' =>
    cases M with
    | nil => simp at lb; omega
    | cons m0 M' =>
      have ⟨b0, _⟩ := digs_cons.1 da
      have eu : upD (m0 :: M') = 0 :: (m0 :: M').take M'.length := by simp [upD]
      have et : turnD (c0 :: C') (upD (m0 :: M')) = c0 :: turnD C' ((m0 :: M').take M'.length) := by
        rw [eu, turnD, Int.add_zero, Int.emod_eq_of_lt b0.1 (by omega)]
      have ep : passD (c0 :: C') (upD (m0 :: M')) = 0 :: passD C' ((m0 :: M').take M'.length) := by
        rw [eu, passD, Int.add_zero, Int.ediv_eq_zero_of_lt b0.1 (by omega)]
      constructor
      · rw [last_of c c0 C' e0 k hk h1]
        refine last_of _ c0 (turnD C' ((m0 :: M').take M'.length)) ?_ k (by rw [s1]; exact hk) h2
        rw [et]; unfold txtS; simp
      · rw [last_of _ 0 (passD C' ((m0 :: M').take M'.length)) (by rw [ep]; unfold txtS; simp) k (by rw [s2]; exact hk) h3, chr_nat 0 (by omega)]
        rfl
set_option maxHeartbeats 1600000 in
theorem lawCarryOnce (a : Option Addr) (len cap : Nat) (w : World) (hc : Came w a len cap) : Calls Tryd.prog 5 #[.slice a len cap] w (Gives (.bool true) w) := by
  obtain ⟨hcap, hcap2, hb, hnil⟩ := hc
  unfold maxLen at hcap2
  by_cases hbig : 1048576 < len
  · clear hb hnil
    go_enter Tryd.func5, Tryd.ntmps5
    go_wp2
    go_ret
    exact ⟨rfl, Below.refl _ _⟩
  · have HD := hidH (drawCarryOnce_any a len cap w (by omega) hcap hcap2 hb hnil)
    clear hb hnil
    go_enter Tryd.func5, Tryd.ntmps5
    go_wp2_with fail
    refine HD.out.mono ?_
    rintro e w1 ⟨s, t, hs, ht, rfl, hB⟩
    have B1 := hidH hB
    clear hB HD
    cases hk : flagged s t
    · have HC := hidH fun w => onceC_no s t w (by omega) (by omega) hk
      have HS := hidH fun w => sOnce_no s t (by omega) (by omega) w hk
      clear hk
      go_wp2_with fail
      refine (HC.out _).mono ?_; rintro e w2 ⟨rfl, hB⟩
      have B2 := hidH (B1.out.trans (hB.mono B1.out.size))
      clear hB B1
      go_wp2_with fail
      refine (HS.out _).mono ?_; rintro e w3 ⟨rfl, hB⟩
      have B3 := hidH (B2.out.trans (hB.mono B2.out.size))
      clear hB B2
      go_wp2
      go_ret
      exact ⟨rfl, B3.out⟩
    · have HT := carried_of s t hk ht
      have ⟨_, _, _, _, l1, l12⟩ := flag_facts s t hk
      obtain ⟨hf, s1, s2, _, _⟩ := once_flags s t hk
      have H1 := hidH HT.once
      have H2 := hidH HT.onceS
      have H3 := hidH HT.ahead
      have H4 := hidH HT.ahead2
      obtain ⟨j, hj⟩ : ∃ j, s.size = j + 1 := ⟨s.size - 1, by omega⟩
      have HW := hidH (low_wheel s t hk j hj)
      clear HT hk hf
      generalize txtS (aheadD 0 (dgS s) (dgS t)) = U at *
      generalize txtS (turnD (dgS s) (upD (dgS t))) = D at *
      generalize txtS (passD (dgS s) (upD (dgS t))) = K at *
      have hsz1 : D.size = j + 1 := by omega
      have hsz2 : K.size = j + 1 := by omega
      clear s1 s2
      have hlt1 : j < s.size := by omega
      have hlt2 : j < D.size := by omega
      have hlt3 : j < K.size := by omega
      have ⟨w1', w2'⟩ := HW.out hlt1 hlt2 hlt3
      have hk1 : ((K[j].toNat : Int) == 48) = true := beq_iff_eq.2 w2'
      have hk3 : ((D[j].toNat : Int) == (s[j].toNat : Int)) = true := by rw [w1']; exact beq_self_eq_true _
      have i1 : (s.size : Int) - 1 = j := by omega
      have i2 : (D.size : Int) - 1 = j := by omega
      have i3 : (K.size : Int) - 1 = j := by omega
      have wr1 : wrap64 ((s.size : Int) - 1) = j := by rw [i1]; exact IntWalk.wrap64_in _ (by omega)
      have wr2 : wrap64 ((D.size : Int) - 1) = j := by rw [i2]; exact IntWalk.wrap64_in _ (by omega)
      have wr3 : wrap64 ((K.size : Int) - 1) = j := by rw [i3]; exact IntWalk.wrap64_in _ (by omega)
      have hj0 : j = 0 → (s.size : Int) < 2 := by omega
      have hj1 : ¬ j = 0 → ¬ (s.size : Int) < 2 := by omega
      clear hj hsz1 hsz2 w2'
      clear HW
      go_wp2_with fail
      refine (H1.out _).mono ?_; rintro e w2 ⟨rfl, hB⟩
      have B2 := hidH (B1.out.trans (hB.mono B1.out.size))
      clear hB B1
      go_wp2_with fail
      refine (H2.out _).mono ?_; rintro e w3 ⟨rfl, hB⟩
      have B3 := hidH (B2.out.trans (hB.mono B2.out.size))
      clear hB B2
      go_wp2_with fail
      refine (H3.out _).mono ?_; rintro e w4 ⟨rfl, hB⟩
      have B4 := hidH (B3.out.trans (hB.mono B3.out.size))
      clear hB B3
      go_wp2_with fail
      refine (H4.out _).mono ?_; rintro e w5 ⟨rfl, hB⟩
      have B5 := hidH (B4.out.trans (hB.mono B4.out.size))
      clear hB B4
      by_cases hjj : j = 0
      · have g2 := hj0 hjj
        have g1 : decide ((s.size : Int) < 2) = true := decide_eq_true g2
        clear hj0 hj1
        subst hjj
        have z1 : ((0 : Nat) : Int) = 0 := rfl
        rw [z1] at i1 i2 i3 wr1 wr2 wr3
        go_wp2
        go_big_region
        go_wp2
        go_ret
        exact ⟨rfl, below_drewN B5.out 1⟩
      · have g2 := hj1 hjj
        have g1 : decide ((s.size : Int) < 2) = false := decide_eq_false (by omega)
        clear hj0 hj1
        go_wp2
        go_big_region
        go_wp2
        go_ret
        exact ⟨rfl, below_drewN B5.out 1⟩
end Go.Proofs.YtfadmifadkknnaaDoor
