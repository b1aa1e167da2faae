/-
  The walks of laws of sums: AddColumns in either order, undone, with zeros, with signs, and of three columns. No conditions but that the bytes that came in can be read.
-/
import Derived.Test.YtoannmpbjaaaoaaDoorLawE
namespace Go.Proofs.YtoannmpbjaaaoaaDoor
open Go.RowKit
theorem sumS_ok (a b : ByteArray) (h : ok a = true) : ok (sumS a b) = true := by
  have ⟨_, g1, g2⟩ := (ok_iff a).1 h
  exact showS_ok _ _ g1 g2
theorem sumS_size (a b : ByteArray) : (sumS a b).size = a.size := showS_size _ _
theorem sumS_val (a b : ByteArray) : valS (sumS a b) = (valS a + valS b) % tenP a.size := showS_val _ _
theorem sumS_comm (a b : ByteArray) (hab : a.size = b.size) : sumS b a = sumS a b := by
  unfold sumS
  rw [← hab, Int.add_comm]
theorem sumS_assoc (a b c : ByteArray) (hab : a.size = b.size) : sumS (sumS a b) c = sumS a (sumS b c) := by
  show showS (valS (sumS a b) + valS c) (sumS a b).size = showS (valS a + valS (sumS b c)) a.size
  rw [sumS_size, sumS_val, sumS_val, ← hab]
  apply showS_congr
  rw [Int.emod_add_emod, Int.add_emod_emod, Int.add_assoc]
/-- The difference of two columns. -/
def difS (a b : ByteArray) : ByteArray := showS (valS a - valS b) a.size
theorem difS_ok (a b : ByteArray) (h : ok a = true) : ok (difS a b) = true := by
  have ⟨_, g1, g2⟩ := (ok_iff a).1 h
  exact showS_ok _ _ g1 g2
theorem difS_size (a b : ByteArray) : (difS a b).size = a.size := showS_size _ _
theorem difS_sum (a b : ByteArray) (h : ok a = true) : difS (sumS a b) b = a := by
  show showS (valS (sumS a b) - valS b) (sumS a b).size = a
  rw [sumS_val, sumS_size]
  rw [show showS ((valS a + valS b) % tenP a.size - valS b) a.size = showS (valS a) a.size from ?_, showS_of a h]
  apply showS_congr
  rw [Int.emod_sub_emod, Int.add_sub_cancel]
theorem difS_self (a : ByteArray) : valS (difS a a) = 0 := by
  show valS (showS (valS a - valS a) a.size) = 0
  rw [showS_val, Int.sub_self, Int.zero_emod]
theorem sumS_zero (a : ByteArray) (h : ok a = true) : sumS a (difS a a) = a := by
  unfold sumS
  rw [difS_self, Int.add_zero, showS_of a h]
theorem addS_no (a b : ByteArray) (w : World) (hsa : a.size ≤ 9223372036854775807) (hsb : b.size ≤ 9223372036854775807) (h : pair a b = false) : Calls Tryd.prog 21 #[.string a, .string b] w (Gives (.tuple #[.string ⟨#[]⟩, .bool false]) w) := addC_no a b w hsa hsb h
theorem sAddS_yes (a b : ByteArray) (w : World) (hsa : a.size ≤ 9223372036854775807) (hsb : b.size ≤ 9223372036854775807) (h : pair a b = true) : Calls Tryd.prog 24 #[.string a, .string b] w (Gives (.tuple #[.string (sumS a b), .bool true]) w) := sAdd_yes a b hsa hsb w h
theorem sAddS_no (a b : ByteArray) (w : World) (hsa : a.size ≤ 9223372036854775807) (hsb : b.size ≤ 9223372036854775807) (h : pair a b = false) : Calls Tryd.prog 24 #[.string a, .string b] w (Gives (.tuple #[.string ⟨#[]⟩, .bool false]) w) := sAdd_no a b hsa hsb w h
theorem subS_yes (a b : ByteArray) (w : World) (ha : ok a = true) (hb : ok b = true) (hab : a.size = b.size) : Calls Tryd.prog 25 #[.string a, .string b] w (Gives (.tuple #[.string (difS a b), .bool true]) w) := by
  have ⟨_, g1, g2⟩ := (ok_iff b).1 hb
  have HN : Hid (∀ w, Calls Tryd.prog 19 #[.string b] w (Gives (.tuple #[.string (showS (-valS b) b.size), .bool true]) w)) := hidH fun w => negate_yes b (by omega) w hb
  have HA := hidH fun w => addS_yes a (showS (-valS b) b.size) w ha (showS_ok _ _ g1 g2) (by rw [showS_size]; exact hab)
  have e : sumS a (showS (-valS b) b.size) = difS a b := by
    unfold sumS difS
    rw [showS_val, ← hab]
    apply showS_congr
    rw [Int.add_emod_emod, Int.sub_eq_add_neg]
  rw [e] at HA
  clear e ha hb
  generalize showS (-valS b) b.size = B at *
  generalize difS a b = D at *
  go_enter Tryd.func25, Tryd.ntmps25
  go_wp2_with fail
  refine (HN.out _).mono ?_; rintro e w1 ⟨rfl, hb1⟩
  go_wp2_with fail
  refine (HA.out _).mono ?_; rintro e w2 ⟨rfl, hb2⟩
  go_wp2
  first | go_ret | go_ret2
  exact ⟨rfl, hb1.trans (hb2.mono hb1.size)⟩
theorem Bytes.onto {w w' : World} {a : Option Addr} {len : Nat} (h : Bytes w a len) (hb : Below w.heap.size w w') : Bytes w' a len := fun j hj => by
  obtain ⟨b, off, x, e, hlt, x1, x2, hc⟩ := h j hj
  exact ⟨b, off, x, e, Nat.lt_of_lt_of_le hlt hb.size, x1, x2, by rw [hb.cell (p := ⟨b, off + j, none⟩) hlt]; exact hc⟩
/-- A sum's sign. -/
theorem sum_sign (a b : ByteArray) (ha : ok a = true) (hb : ok b = true) (hab : a.size = b.size) : (sgnS (sumS a b) == sgnS a + sgnS b) = fits (sgnS a + sgnS b) a.size := by
  have ⟨_, g1, g2⟩ := (ok_iff a).1 ha
  have e : sumS a b = showS (sgnS a + sgnS b) a.size := by
    unfold sumS
    apply showS_congr
    rw [← sgnS_mod a ha, ← sgnS_mod b hb, ← hab, Int.emod_add_emod, Int.add_emod_emod]
  cases hf : fits (sgnS a + sgnS b) a.size
  · rw [beq_eq_false_iff_ne]
    intro h
    have h2 := sgnS_fits (sumS a b) (sumS_ok a b ha)
    rw [h, sumS_size, hf] at h2
    cases h2
  · rw [e, sgnS_show _ _ g1 hf, beq_self_eq_true]
set_option maxHeartbeats 1600000 in
theorem lawAddTurned (a : Option Addr) (len cap : Nat) (w : World) (hc : Came w a len cap) : Calls Tryd.prog 6 #[.slice a len cap] w (Gives (.bool true) w) := by
  obtain ⟨hcap, hcap2, hb, hnil⟩ := hc
  unfold maxLen at hcap2
  by_cases hbig : 1048576 < len
  · clear hb hnil
    go_enter Tryd.func6, Tryd.ntmps6
    go_wp2
    go_ret
    exact ⟨rfl, Below.refl _ _⟩
  · have HD := hidH (drawAddColumns_any a len cap w (by omega) hcap hcap2 hb hnil)
    clear hb hnil
    go_enter Tryd.func6, Tryd.ntmps6
    go_wp2_with fail
    refine HD.out.mono ?_
    rintro e w1 ⟨s, t, hs, ht, rfl, hB⟩
    have B1 := hidH hB
    clear hB HD
    cases hk : pair s t
    · have HC := hidH fun w => addS_no s t w (by omega) (by omega) hk
      have HS := hidH fun w => sAddS_no s t w (by omega) (by omega) hk
      clear hk
      go_wp2_with fail
      refine (HC.out _).mono ?_; rintro e w2 ⟨rfl, hB⟩
      have B2 := hidH (B1.out.trans (hB.mono B1.out.size))
      clear hB B1
      go_wp2_with fail
      refine (HS.out _).mono ?_; rintro e w3 ⟨rfl, hB⟩
      have B3 := hidH (B2.out.trans (hB.mono B2.out.size))
      clear hB B2
      go_wp2
      go_ret
      exact ⟨rfl, B3.out⟩
    · obtain ⟨ha, hb, hab⟩ := (pair_iff s t).1 hk
      have ⟨_, g1, g2⟩ := (ok_iff s).1 ha
      have HC := hidH fun w => addS_yes s t w ha hb hab
      have HS := hidH fun w => sAddS_yes s t w (by omega) (by omega) hk
      clear hk
      have H3 := hidH fun w => addS_yes t s w hb ha hab.symm
      rw [sumS_comm s t hab] at H3
      have H4 := hidH fun w => subS_yes (sumS s t) t w (sumS_ok s t ha) hb (by rw [sumS_size]; exact hab)
      rw [difS_sum s t ha] at H4
      have H5 := hidH fun w => subS_yes s s w ha ha rfl
      have H6 := hidH fun w => addS_yes s (difS s s) w ha (difS_ok s s ha) (difS_size s s).symm
      rw [sumS_zero s ha] at H6
      have H7 := hidH fun w => value_yes (difS s s) (by rw [difS_size]; omega) w (difS_ok s s ha)
      rw [difS_self] at H7
      clear ha hb
      generalize sumS s t = C at *
      generalize difS s s = Z at *
      go_wp2_with fail
      refine (HC.out _).mono ?_; rintro e w2 ⟨rfl, hB⟩
      have B2 := hidH (B1.out.trans (hB.mono B1.out.size))
      clear hB B1
      go_wp2_with fail
      refine (HS.out _).mono ?_; rintro e w3 ⟨rfl, hB⟩
      have B3 := hidH (B2.out.trans (hB.mono B2.out.size))
      clear hB B2
      go_wp2_with fail
      refine (H3.out _).mono ?_; rintro e w4 ⟨rfl, hB⟩
      have B4 := hidH (B3.out.trans (hB.mono B3.out.size))
      clear hB B3
      go_wp2_with fail
      refine (H4.out _).mono ?_; rintro e w5 ⟨rfl, hB⟩
      have B5 := hidH (B4.out.trans (hB.mono B4.out.size))
      clear hB B4
      go_wp2_with fail
      refine (H5.out _).mono ?_; rintro e w6 ⟨rfl, hB⟩
      have B6 := hidH (B5.out.trans (hB.mono B5.out.size))
      clear hB B5
      go_wp2_with fail
      refine (H6.out _).mono ?_; rintro e w7 ⟨rfl, hB⟩
      have B7 := hidH (B6.out.trans (hB.mono B6.out.size))
      clear hB B6
      go_wp2_with fail
      refine (H7.out _).mono ?_; rintro e w8 ⟨rfl, hB⟩
      have B8 := hidH (B7.out.trans (hB.mono B7.out.size))
      clear hB B7
      go_wp2
      go_ret
      exact ⟨rfl, B8.out⟩
set_option maxHeartbeats 1600000 in
theorem lawAddSigned (a : Option Addr) (len cap : Nat) (w : World) (hc : Came w a len cap) : Calls Tryd.prog 7 #[.slice a len cap] w (Gives (.bool true) w) := by
  obtain ⟨hcap, hcap2, hb, hnil⟩ := hc
  unfold maxLen at hcap2
  by_cases hbig : 1048576 < len
  · clear hb hnil
    go_enter Tryd.func7, Tryd.ntmps7
    go_wp2
    go_ret
    exact ⟨rfl, Below.refl _ _⟩
  · have HD := hidH (drawAddColumns_any a len cap w (by omega) hcap hcap2 hb hnil)
    clear hb hnil
    go_enter Tryd.func7, Tryd.ntmps7
    go_wp2_with fail
    refine HD.out.mono ?_
    rintro e w1 ⟨s, t, hs, ht, rfl, hB⟩
    have B1 := hidH hB
    clear hB HD
    cases hk : pair s t
    · have HC := hidH fun w => addS_no s t w (by omega) (by omega) hk
      have HS := hidH fun w => sAddS_no s t w (by omega) (by omega) hk
      clear hk
      go_wp2_with fail
      refine (HC.out _).mono ?_; rintro e w2 ⟨rfl, hB⟩
      have B2 := hidH (B1.out.trans (hB.mono B1.out.size))
      clear hB B1
      go_wp2_with fail
      refine (HS.out _).mono ?_; rintro e w3 ⟨rfl, hB⟩
      have B3 := hidH (B2.out.trans (hB.mono B2.out.size))
      clear hB B2
      go_wp2
      go_ret
      exact ⟨rfl, B3.out⟩
    · obtain ⟨ha, hb, hab⟩ := (pair_iff s t).1 hk
      have ⟨_, g1, g2⟩ := (ok_iff s).1 ha
      have HC := hidH fun w => addS_yes s t w ha hb hab
      have HS := hidH fun w => sAddS_yes s t w (by omega) (by omega) hk
      clear hk
      have HM := hidH fun w => signed_yes s (by omega) w ha
      have HN := hidH fun w => signed_yes t (by omega) w hb
      have HK := hidH fun w => signed_yes (sumS s t) (by rw [sumS_size]; omega) w (sumS_ok s t ha)
      have HW := hidH fun w => widthFor_any (sgnS s + sgnS t) w
      have hsg := sum_sign s t ha hb hab
      rw [fits_width _ _ g1 g2] at hsg
      have hmb : -1000000000000 ≤ sgnS s ∧ sgnS s ≤ 1000000000000 := by
        have ⟨f1, f2⟩ := (fits_iff _ _).1 (sgnS_fits s ha)
        have := tenP_12 s.size g2
        omega
      have hnb : -1000000000000 ≤ sgnS t ∧ sgnS t ≤ 1000000000000 := by
        have ⟨f1, f2⟩ := (fits_iff _ _).1 (sgnS_fits t hb)
        have := tenP_12 t.size (by omega)
        omega
      have hw12 := widthN_le (sgnS s + sgnS t)
      clear ha hb
      generalize sumS s t = C at *
      generalize sgnS C = k at *
      generalize widthN (sgnS s + sgnS t) = v at *
      generalize sgnS s = m at *
      generalize sgnS t = n at *
      have HX := hidH hsg
      clear hsg
      go_wp2_with fail
      refine (HC.out _).mono ?_; rintro e w2 ⟨rfl, hB⟩
      have B2 := hidH (B1.out.trans (hB.mono B1.out.size))
      clear hB B1
      go_wp2_with fail
      refine (HS.out _).mono ?_; rintro e w3 ⟨rfl, hB⟩
      have B3 := hidH (B2.out.trans (hB.mono B2.out.size))
      clear hB B2
      go_wp2_with fail
      refine (HM.out _).mono ?_; rintro e w4 ⟨rfl, hB⟩
      have B4 := hidH (B3.out.trans (hB.mono B3.out.size))
      clear hB B3
      go_wp2_with fail
      refine (HN.out _).mono ?_; rintro e w5 ⟨rfl, hB⟩
      have B5 := hidH (B4.out.trans (hB.mono B4.out.size))
      clear hB B4
      go_wp2_with fail
      refine (HK.out _).mono ?_; rintro e w6 ⟨rfl, hB⟩
      have B6 := hidH (B5.out.trans (hB.mono B5.out.size))
      clear hB B5
      go_wp2_with fail
      refine (HW.out _).mono ?_; rintro e w7 ⟨rfl, hB⟩
      have B7 := hidH (B6.out.trans (hB.mono B6.out.size))
      clear hB B6
      have hsg := HX.out
      clear HX
      by_cases h1 : 0 < v
      · rw [decide_eq_true h1, Bool.true_and] at hsg
        by_cases h2 : v ≤ s.size
        · rw [decide_eq_true h2] at hsg
          go_wp2
          go_ret
          refine ⟨?_, B7.out⟩
          show Ending.returned (.bool (decide (v ≤ t.size))) = _
          rw [decide_eq_true (by omega)]
        · rw [decide_eq_false h2] at hsg
          go_wp2
          go_ret
          refine ⟨?_, B7.out⟩
          show Ending.returned (.bool (!decide (v ≤ t.size))) = _
          rw [decide_eq_false (by omega)]
          rfl
      · rw [decide_eq_false h1, Bool.false_and] at hsg
        go_wp2
        go_ret
        exact ⟨rfl, B7.out⟩
end Go.Proofs.YtoannmpbjaaaoaaDoor
