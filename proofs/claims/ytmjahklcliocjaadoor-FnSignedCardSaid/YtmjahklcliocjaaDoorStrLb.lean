/-
  The walk of a law: a column is the one that stands for its number, shows it exactly if it is not negative, and is parsed from its text. Conditions: the bytes that came in can be read; the library's table of powers of ten and its two errors are as its own text lays them.
-/
import Derived.Test.YtmjahklcliocjaaDoorStrS
import Derived.Test.YtmjahklcliocjaaDoorLaid
import Derived.Test.YtmjahklcliocjaaDoorKitE
import Derived.Test.YtmjahklcliocjaaDoorMathD
namespace Go.Proofs.YtmjahklcliocjaaDoor
set_option maxRecDepth 4000
open Go.RowKit
theorem decB_size (n : Int) (h0 : -9223372036854775808 ≤ n) (h1 : n ≤ 9223372036854775807) : (decB n).size ≤ 21 := by
  have := Lib.itoa_length_le n h0 h1
  show (Lib.itoa n).toArray.size ≤ 21
  simpa using this
theorem psA_dec (n : Int) (h0 : -100000000000000000 < n) (h1 : n < 100000000000000000) (wi : Int) : psA (decB n) wi = colA n wi := by
  unfold psA decB
  rw [numL_itoa n h0 h1]
theorem colA_sgn (s : ByteArray) (h : ok s = true) : colA (sgnS s) s.size = .tuple #[.string s, .bool true] := by
  have ⟨_, l1, l2⟩ := (ok_iff s).1 h
  rw [colA_yes (sgnS s) s.size l1 l2 (sgnS_fits s h)]
  show Value.tuple #[.string (showS (sgnS s) s.size), .bool true] = _
  rw [showS_sgn s h]
theorem sgn_val (s : ByteArray) (h : ok s = true) : (valS s == sgnS s) = decide (0 ≤ sgnS s) := by
  have ⟨v0, v1, l1, l2, t⟩ := valS_bd s h
  unfold sgnS
  split
  · rw [decide_eq_false (by omega)]
    exact beq_eq_false_iff_ne.2 (by omega)
  · rw [decide_eq_true (by omega)]
    exact beq_iff_eq.2 rfl
set_option maxHeartbeats 1600000 in
theorem lawSigned (a : Option Addr) (len cap : Nat) (w : World) (hc : Came w a len cap) (hT : PowT w) (hE : ErrT w) : Calls Tryd.prog 3 #[.slice a len cap] w (Gives (.bool true) w) := by
  obtain ⟨hcap, hcap2, hb, hnil⟩ := hc
  unfold maxLen at hcap2
  by_cases hbig : 1048576 < len
  · clear hb hnil
    go_enter Tryd.func3, Tryd.ntmps3
    go_wp2
    go_ret
    exact ⟨rfl, Below.refl _ _⟩
  · have HD := hidH (drawSignedOf_any a len cap w (by omega) hcap hcap2 hb hnil)
    clear hb hnil
    go_enter Tryd.func3, Tryd.ntmps3
    go_wp2_with fail
    refine HD.out.mono ?_
    rintro e w1 ⟨s, hs, rfl, hB⟩
    have B1 := hidH hB
    clear hB HD
    cases hk : ok s
    · have HG := hidH fun w => signed_no s (by omega) w hk
      have HS := hidH fun w => sSigned_no s (by omega) w hk
      have HV := hidH fun w => valid_no s (by omega) w hk
      clear hk
      go_wp2_with fail
      refine (HG.out _).mono ?_; rintro e w2 ⟨rfl, hB⟩
      have B2 := hidH (B1.out.trans (hB.mono B1.out.size))
      clear hB B1
      go_wp2_with fail
      refine (HS.out _).mono ?_; rintro e w3 ⟨rfl, rfl⟩
      go_wp2_with fail
      refine (HV.out _).mono ?_; rintro e w4 ⟨rfl, hB⟩
      have B3 := hidH (B2.out.trans (hB.mono B2.out.size))
      clear hB B2
      go_wp2_with fail
      refine (HV.out _).mono ?_; rintro e w5 ⟨rfl, hB⟩
      have B4 := hidH (B3.out.trans (hB.mono B3.out.size))
      clear hB B3
      go_wp2
      go_ret
      exact ⟨rfl, B4.out⟩
    · have ⟨b0, b1⟩ := sgn_bd s hk
      have ⟨v0, v1, l1, l2, t⟩ := valS_bd s hk
      have HG := hidH fun w => signed_yes s (by omega) w hk
      have HS := hidH fun w => sSigned_yes s (by omega) w hk
      have HV := hidH fun w => valid_yes s (by omega) w hk
      have HC := hidH fun w => col_any (sgnS s) s.size w
      rw [colA_sgn s hk] at HC
      have HU := hidH fun w => value_yes s (by omega) w hk
      have HF := hidH fun (W : World) (hb : Below w.heap.size w W) => formatSigned_any s (by omega) W (hT.below hb)
      have hfs : fsB s = decB (sgnS s) := by unfold fsB; rw [if_pos hk]
      rw [hfs] at HF
      have hz := decB_size (sgnS s) (by omega) (by omega)
      have HP := hidH fun (W : World) (hb : Below w.heap.size w W) => parseSigned_any (decB (sgnS s)) (by omega) s.size W (hT.below hb) (hE.below hb)
      rw [psA_dec _ (by omega) (by omega), colA_sgn s hk] at HP
      have HX := hidH (sgn_val s hk)
      clear hk hT hE hfs hz t v1
      generalize decB (sgnS s) = d at *
      generalize sgnS s = n at *
      generalize valS s = v at *
      go_wp2_with fail
      refine (HG.out _).mono ?_; rintro e w2 ⟨rfl, hB⟩
      have B2 := hidH (B1.out.trans (hB.mono B1.out.size))
      clear hB B1
      go_wp2_with fail
      refine (HS.out _).mono ?_; rintro e w3 ⟨rfl, rfl⟩
      go_wp2_with fail
      refine (HV.out _).mono ?_; rintro e w4 ⟨rfl, hB⟩
      have B3 := hidH (B2.out.trans (hB.mono B2.out.size))
      clear hB B2
      go_wp2_with fail
      refine (HC.out _).mono ?_; rintro e w5 ⟨rfl, hB⟩
      have B4 := hidH (B3.out.trans (hB.mono B3.out.size))
      clear hB B3
      go_wp2_with fail
      refine (HU.out _).mono ?_; rintro e w6 ⟨rfl, hB⟩
      have B5 := hidH (B4.out.trans (hB.mono B4.out.size))
      clear hB B4
      go_wp2_with fail
      refine (HF.out _ B5.out).mono ?_; rintro e w7 ⟨rfl, hB⟩
      have B6 := hidH (B5.out.trans (hB.mono B5.out.size))
      clear hB B5
      go_wp2_with fail
      refine (HP.out _ B6.out).mono ?_; rintro e w8 ⟨rfl, hB⟩
      have B7 := hidH (B6.out.trans (hB.mono B6.out.size))
      clear hB B6
      go_wp2
      go_ret
      exact ⟨rfl, B7.out⟩
end Go.Proofs.YtmjahklcliocjaaDoor
