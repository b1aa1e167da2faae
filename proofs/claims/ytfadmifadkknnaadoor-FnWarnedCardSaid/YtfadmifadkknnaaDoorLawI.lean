/-
  The walk of a law of marks: a wheel is marked exactly if it shows less than before, and then it does not show 9. No conditions but that the bytes that came in can be read.
-/
import Derived.Test.YtfadmifadkknnaaDoorLawH
namespace Go.Proofs.YtfadmifadkknnaaDoor
open Go.RowKit
theorem get_of (s : ByteArray) (l : List UInt8) (hl : s.data.toList = l) (k : Nat) (c : UInt8) (h : l[k]? = some c) (hk : k < s.size) : s[k] = c := by
  have := get_at s k hk
  rw [hl, h] at this
  exact (Option.some.inj this).symm
/-- The wheels one by one. -/
theorem wheel_at (a b : ByteArray) (h : pair a b = true) (k : Nat) (h1 : k < a.size) (h2 : k < b.size) (h3 : k < (txtS (turnD (dgS a) (dgS b))).size) (h4 : k < (txtS (passD (dgS a) (dgS b))).size) :
    ∃ x y : Int, 0 ≤ x ∧ x ≤ 9 ∧ 0 ≤ y ∧ y ≤ 9 ∧ (a[k].toNat : Int) = 48 + x ∧ (b[k].toNat : Int) = 48 + y ∧ ((txtS (turnD (dgS a) (dgS b)))[k].toNat : Int) = 48 + (x + y) % 10 ∧ ((txtS (passD (dgS a) (dgS b)))[k].toNat : Int) = 48 + (x + y) / 10 := by
  obtain ⟨ha, hb, hab⟩ := (pair_iff a b).1 h
  have ⟨da, _, _⟩ := (ok_iff a).1 ha
  have ⟨db, _, _⟩ := (ok_iff b).1 hb
  have ga := get_at a k h1
  have gb := get_at b k h2
  have ⟨x0, x1⟩ := da _ (List.mem_of_getElem? ga)
  have ⟨y0, y1⟩ := db _ (List.mem_of_getElem? gb)
  have hlen : a.data.toList.length = b.data.toList.length := by rw [size_len, size_len, hab]
  have e1 : (txtS (turnD (dgS a) (dgS b)))[k] = chr (((a[k].toNat : Int) - 48 + ((b[k].toNat : Int) - 48)) % 10) := by
    refine get_of _ (txt (turnD (dgS a) (dgS b))) (by unfold txtS; simp) k _ ?_ h3
    show (txt (turnD (dg a.data.toList) (dg b.data.toList)))[k]? = _
    rw [txt_turn _ _ hlen, List.getElem?_zipWith, ga, gb]
  have e2 : (txtS (passD (dgS a) (dgS b)))[k] = chr (((a[k].toNat : Int) - 48 + ((b[k].toNat : Int) - 48)) / 10) := by
    refine get_of _ (txt (passD (dgS a) (dgS b))) (by unfold txtS; simp) k _ ?_ h4
    show (txt (passD (dg a.data.toList) (dg b.data.toList)))[k]? = _
    rw [txt_pass _ _ hlen, List.getElem?_zipWith, ga, gb]
  refine ⟨(a[k].toNat : Int) - 48, (b[k].toNat : Int) - 48, by omega, by omega, by omega, by omega, by omega, by omega, ?_, ?_⟩
  · rw [e1, chr_nat _ (by omega)]
  · rw [e2, chr_nat _ (by omega)]
set_option maxHeartbeats 1600000 in
theorem lawWarned (a : Option Addr) (len cap : Nat) (w : World) (hc : Came w a len cap) : Calls Tryd.prog 4 #[.slice a len cap] w (Gives (.bool true) w) := by
  obtain ⟨hcap, hcap2, hb, hnil⟩ := hc
  unfold maxLen at hcap2
  by_cases hbig : 1048576 < len
  · clear hb hnil
    go_enter Tryd.func4, Tryd.ntmps4
    go_wp2
    go_ret
    exact ⟨rfl, Below.refl _ _⟩
  · have HD := hidH (drawWarnedWheels_any a len cap w (by omega) hcap hcap2 hb hnil)
    clear hb hnil
    go_enter Tryd.func4, Tryd.ntmps4
    go_wp2_with fail
    refine HD.out.mono ?_
    rintro e w1 ⟨s, t, hs, ht, rfl, hB⟩
    have B1 := hidH hB
    clear hB HD
    cases hk : pair s t
    · have HC := hidH fun w => warnW_no s t w (by omega) (by omega) hk
      have HS := hidH fun w => sWarn_no s t (by omega) (by omega) w hk
      clear hk
      go_wp2_with fail
      refine (HC.out _).mono ?_; rintro e w2 ⟨rfl, hB⟩
      have B2 := hidH (B1.out.trans (hB.mono B1.out.size))
      clear hB B1
      go_wp2_with fail
      refine (HS.out _).mono ?_; rintro e w3 ⟨rfl, hB⟩
      have B3 := hidH (B2.out.trans (hB.mono B2.out.size))
      clear hB B2
      go_wp2
      go_ret
      exact ⟨rfl, B3.out⟩
    · obtain ⟨n, HT⟩ := turned_of s t hk
      have H1 := hidH HT.warn
      have H2 := hidH HT.warnS
      have H3 := hidH HT.turn
      have HW := hidH (wheel_at s t hk)
      obtain ⟨ha, hb, hab⟩ := (pair_iff s t).1 hk
      have ⟨_, g1, g2⟩ := (ok_iff s).1 ha
      obtain ⟨_, s1, s2, _, _⟩ := turned_flags s t hk
      clear HT hk ha hb
      generalize txtS (turnD (dgS s) (dgS t)) = C at *
      generalize txtS (passD (dgS s) (dgS t)) = M at *
      go_wp2_with fail
      refine (H1.out _).mono ?_; rintro e w2 ⟨rfl, hB⟩
      have B2 := hidH (B1.out.trans (hB.mono B1.out.size))
      clear hB B1
      go_wp2_with fail
      refine (H2.out _).mono ?_; rintro e w3 ⟨rfl, hB⟩
      have B3 := hidH (B2.out.trans (hB.mono B2.out.size))
      clear hB B2
      go_wp2_with fail
      refine (H3.out _).mono ?_; rintro e w4 ⟨rfl, hB⟩
      have B4 := hidH (B3.out.trans (hB.mono B3.out.size))
      clear hB B3
      go_wp2
      go_loopw [11] (fun i wr => ∃ k : Nat, k ≤ C.size ∧ i = .int .i64 k ∧ Below w.heap.size w wr) (fun i _ => C.size - (intOf i).toNat)
      case atStart => exact ⟨0, Nat.zero_le _, rfl, B4.out⟩
      case round =>
        obtain ⟨k, hk, rfl, hB⟩ := hrel
        have B5 := hidH hB
        clear hB B4 H1 H2 H3
        by_cases hlt : k < C.size
        · have e1 : k < s.size := by omega
          have e2 : k < t.size := by omega
          have e3 : k < M.size := by omega
          obtain ⟨x, y, x0, x1, y0, y1, ea, eb, ec, em⟩ := HW.out k e1 e2 hlt e3
          clear HW hab s1 s2
          by_cases hc : x + y ≤ 9
          · have m1 : ((M[k].toNat : Int) == 49) = false := beq_eq_false_iff_ne.2 (by omega)
            have m2 : decide (C[k].toNat < s[k].toNat) = false := decide_eq_false (by omega)
            clear ea eb ec em
            go_wp2
            go_region
            go_wp2
            go_roundw
            case rel => exact ⟨k + 1, by omega, by go_num, below_drewN B5.out 1⟩
            case measure => simp [intOf]; omega
          · have m1 : ((M[k].toNat : Int) == 49) = true := beq_iff_eq.2 (by omega)
            have m2 : (C[k].toNat : Int) < (s[k].toNat : Int) := by omega
            have m3 : ((C[k].toNat : Int) == 57) = false := beq_eq_false_iff_ne.2 (by omega)
            clear ea eb ec em
            go_wp2
            go_region
            go_wp2
            go_roundw
            case rel => exact ⟨k + 1, by omega, by go_num, below_drewN B5.out 1⟩
            case measure => simp [intOf]; omega
        · have hfin : ((M.size : Int) == (s.size : Int)) = true := beq_iff_eq.2 (by omega)
          clear hab s1 s2
          go_wp2
          go_ret
          exact ⟨rfl, B5.out⟩
end Go.Proofs.YtfadmifadkknnaaDoor
