/-
  The walk of a law of sums of three columns. No conditions but that the bytes that came in can be read.
-/
import Derived.Test.YtoannmpbjaaaoaaDoorLawF
namespace Go.Proofs.YtoannmpbjaaaoaaDoor
open Go.RowKit
/-- The length of a text. -/
def lenOf : Value → Nat
  | .string X => X.size
  | _ => 0
/-- All bytes are digits. -/
def digS (x : ByteArray) : Prop := ∀ c ∈ x.data.toList, 48 ≤ (c.toNat : Int) ∧ (c.toNat : Int) ≤ 57
theorem digS_seven (x : ByteArray) (h : digS x) : digS (x ++ ⟨#[55]⟩) := by
  intro c hc
  have e : (x ++ ⟨#[55]⟩ : ByteArray).data.toList = x.data.toList ++ [55] := by simp
  rw [e, List.mem_append] at hc
  rcases hc with h1 | h1
  · exact h c h1
  · simp only [List.mem_singleton] at h1
    subst h1
    decide
theorem digS_cut (x : ByteArray) (n : Nat) (h : digS x) (h1 : 1 ≤ n) (h2 : n ≤ 12) (h3 : n ≤ x.size) : ok (x.extract 0 n) = true ∧ (x.extract 0 n).size = n := by
  have e : (x.extract 0 n).data.toList = x.data.toList.take n := by
    simp [ByteArray.data_extract]
  have hs : (x.extract 0 n).size = n := by simp [ByteArray.size_extract]; omega
  refine ⟨?_, hs⟩
  rw [ok_iff, hs, e]
  exact ⟨fun c hc => h c (List.mem_of_mem_take hc), h1, h2⟩
set_option maxHeartbeats 800000 in
theorem lawAddThree (a : Option Addr) (len cap : Nat) (a2 : Option Addr) (len2 cap2 : Nat) (w : World) (hc : Came w a len cap) (hc2 : Came w a2 len2 cap2) : Calls Tryd.prog 8 #[.slice a len cap, .slice a2 len2 cap2] w (Gives (.bool true) w) := by
  obtain ⟨hcap, hcp, hb, hnil⟩ := hc
  obtain ⟨hcap2, hcp2, hb2, hnil2⟩ := hc2
  unfold maxLen at hcp hcp2
  by_cases hbig : 1048576 < len
  · clear hb hnil hb2 hnil2
    go_enter Tryd.func8, Tryd.ntmps8
    go_wp2
    go_ret
    exact ⟨rfl, Below.refl _ _⟩
  · by_cases hbig2 : 1048576 < len2
    · clear hb hnil hb2 hnil2
      go_enter Tryd.func8, Tryd.ntmps8
      go_wp2
      go_ret
      exact ⟨rfl, Below.refl _ _⟩
    · have HD := hidH (drawAddColumns_any a len cap w (by omega) hcap hcp hb hnil)
      have HY := hidH hb2
      have HZ := hidH hnil2
      clear hb hnil hb2 hnil2
      go_enter Tryd.func8, Tryd.ntmps8
      go_wp2_with fail
      refine HD.out.mono ?_
      rintro e w1 ⟨s, t, hs, ht, rfl, hB⟩
      have B1 := hidH hB
      have HE := hidH (drawAddColumns_any a2 len2 cap2 w1 (by omega) hcap2 hcp2 (HY.out.onto hB) HZ.out)
      clear hB HD HY HZ
      go_wp2_with fail
      refine HE.out.mono ?_
      rintro e w2 ⟨u, x, hu, hx, rfl, hB⟩
      have B2 := hidH (B1.out.trans (hB.mono B1.out.size))
      clear hB HE B1
      cases hk : pair s t
      · have HC := hidH fun w => addS_no s t w (by omega) (by omega) hk
        have HS := hidH fun w => sAddS_no s t w (by omega) (by omega) hk
        clear hk
        go_wp2_with fail
        refine (HC.out _).mono ?_; rintro e w3 ⟨rfl, hB⟩
        have B3 := hidH (B2.out.trans (hB.mono B2.out.size))
        clear hB B2
        go_wp2_with fail
        refine (HS.out _).mono ?_; rintro e w4 ⟨rfl, hB⟩
        have B4 := hidH (B3.out.trans (hB.mono B3.out.size))
        clear hB B3
        go_wp2
        go_ret
        exact ⟨rfl, B4.out⟩
      · obtain ⟨ha, hb, hab⟩ := (pair_iff s t).1 hk
        have ⟨_, g1, g2⟩ := (ok_iff s).1 ha
        have HC := hidH fun w => addS_yes s t w ha hb hab
        have HS := hidH fun w => sAddS_yes s t w (by omega) (by omega) hk
        clear hk
        have HX := hidH fun w => colValid_any x (by omega) w
        cases hxk : ok x
        · rw [hxk] at HX
          clear ha hb
          generalize sumS s t = C at *
          go_wp2_with fail
          refine (HC.out _).mono ?_; rintro e w3 ⟨rfl, hB⟩
          have B3 := hidH (B2.out.trans (hB.mono B2.out.size))
          clear hB B2
          go_wp2_with fail
          refine (HS.out _).mono ?_; rintro e w4 ⟨rfl, hB⟩
          have B4 := hidH (B3.out.trans (hB.mono B3.out.size))
          clear hB B3
          go_wp2_with fail
          refine (HX.out _).mono ?_; rintro e w5 ⟨rfl, hB⟩
          have B5 := hidH (B4.out.trans (hB.mono B4.out.size))
          clear hB B4
          go_wp2
          go_ret
          exact ⟨rfl, B5.out⟩
        · rw [hxk] at HX
          have ⟨hdx, x1, x2⟩ := (ok_iff x).1 hxk
          have H1 : Hid (∀ (X : ByteArray), ok X = true → X.size = s.size → ∀ w, Calls Tryd.prog 21 #[.string (sumS s t), .string X] w (Gives (.tuple #[.string (sumS (sumS s t) X), .bool true]) w)) := hidH fun X h1 h2 w => addS_yes _ X w (sumS_ok s t ha) h1 (by rw [sumS_size]; exact h2.symm)
          have H2 : Hid (∀ (X : ByteArray), ok X = true → X.size = s.size → ∀ w, Calls Tryd.prog 21 #[.string t, .string X] w (Gives (.tuple #[.string (sumS t X), .bool true]) w)) := hidH fun X h1 h2 w => addS_yes t X w hb h1 (by rw [h2]; exact hab.symm)
          have H3 : Hid (∀ (X : ByteArray), ok X = true → X.size = s.size → ∀ w, Calls Tryd.prog 21 #[.string s, .string (sumS t X)] w (Gives (.tuple #[.string (sumS (sumS s t) X), .bool true]) w)) := hidH fun X h1 h2 w => by
            rw [sumS_assoc s t X hab]
            exact addS_yes s _ w ha (sumS_ok t X hb) (by rw [sumS_size]; exact hab)
          have DX := hidH (show digS x from hdx)
          clear ha hb hdx hxk
          generalize sumS s t = C at *
          go_wp2_with fail
          refine (HC.out _).mono ?_; rintro e w3 ⟨rfl, hB⟩
          have B3 := hidH (B2.out.trans (hB.mono B2.out.size))
          clear hB B2
          go_wp2_with fail
          refine (HS.out _).mono ?_; rintro e w4 ⟨rfl, hB⟩
          have B4 := hidH (B3.out.trans (hB.mono B3.out.size))
          clear hB B3
          go_wp2_with fail
          refine (HX.out _).mono ?_; rintro e w5 ⟨rfl, hB⟩
          have B5 := hidH (B4.out.trans (hB.mono B4.out.size))
          clear hB B4
          go_wp2
          go_loopw [8] (fun v wr => ∃ X : ByteArray, v = .string X ∧ digS X ∧ X.size ≤ 12 ∧ Below w.heap.size w wr) (fun v _ => 13 - lenOf v)
          case atStart => exact ⟨x, rfl, DX.out, by omega, B5.out⟩
          case round =>
            obtain ⟨X, rfl, hX, hX2, hB⟩ := hrel
            have B6 := hidH hB
            have DY := hidH hX
            clear hB hX B5 DX HX
            by_cases hlt : X.size < s.size
            · go_wp2
              refine ⟨⟨_, rfl, digS_seven X DY.out, ?_, B6.out⟩, ?_⟩
              · rw [ByteArray.size_append]; show X.size + 1 ≤ 12; omega
              · show 13 - (X ++ ⟨#[55]⟩ : ByteArray).size < 13 - X.size
                rw [ByteArray.size_append]; show 13 - (X.size + 1) < _; omega
            · have ⟨k1, k2⟩ := digS_cut X t.size DY.out (by omega) (by omega) (by omega)
              have k3 : (X.extract 0 t.size).size = s.size := by rw [k2]; exact hab.symm
              have J1 := hidH (H1.out _ k1 k3)
              have J2 := hidH (H2.out _ k1 k3)
              have J3 := hidH (H3.out _ k1 k3)
              clear H1 H2 H3 k1 k3
              generalize hZ : X.extract 0 t.size = Z at *
              generalize sumS t Z = V at *
              generalize sumS C Z = U at *
              go_wp2_with fail
              refine (J1.out _).mono ?_; rintro e w7 ⟨rfl, hB⟩
              have B7 := hidH (B6.out.trans (hB.mono B6.out.size))
              clear hB B6
              go_wp2_with fail
              refine (J2.out _).mono ?_; rintro e w8 ⟨rfl, hB⟩
              have B8 := hidH (B7.out.trans (hB.mono B7.out.size))
              clear hB B7
              go_wp2_with fail
              refine (J3.out _).mono ?_; rintro e w9 ⟨rfl, hB⟩
              have B9 := hidH (B8.out.trans (hB.mono B8.out.size))
              clear hB B8
              go_wp2
              go_ret
              exact ⟨rfl, B9.out⟩
end Go.Proofs.YtoannmpbjaaaoaaDoor
