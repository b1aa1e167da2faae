/-
  The walk of a law: a polynomial is found from its values. No conditions but that the bytes that came in can be read.
-/
import Derived.Test.YtgenniaklpheoaaKitV
import Derived.Test.YtgenniaklpheoaaDeFns
import Derived.Test.YtgenniaklpheoaaPolyAm
namespace Go.Proofs.Ytgenniaklpheoaa
open Go.RowKit
set_option maxHeartbeats 2000000 in
theorem lawInterpolateValues (a : Option Addr) (len cap : Nat) (w : World) (hc : Came w a len cap) : Calls Try.prog 10 #[.slice a len cap] w (Gives (.bool true) w) := by
  have hcap := hc.lenLe
  have hcap2 := hc.capLe
  unfold maxLen at hcap2
  by_cases hbig : 1048576 < len
  · clear hc
    go_enter Try.func10, Try.ntmps10
    go_wp2
    go_ret
    exact ⟨rfl, Below.refl _ _⟩
  · have HD := hidH (drawValuesOf a len cap w hc (by omega))
    clear hc
    go_enter Try.func10, Try.ntmps10
    go_wp2_with fail
    refine HD.out.mono ?_
    rintro e w1 ⟨v, zs, n, c, rfl, hrow, h8, hB⟩
    have LP := hidH hrow.lies
    have B1 := hidH hB
    clear hrow hB HD
    go_wp2_with fail
    refine (values_any v zs n c w1 _ _ LP.out).mono ?_; rintro e w2 ⟨q, rfl, hq, hb⟩
    have LP2 := hidH (LP.out.below hb)
    have RV2 := hidH hq
    have B2 := hidH (B1.out.trans (hb.mono B1.out.size))
    clear hb hq LP B1
    go_wp2_with fail
    refine (sValuesOf_any v zs n c w2 _ _ LP2.out).mono ?_; rintro e w3 ⟨u, rfl, hu, hb⟩
    have LP3 := hidH (LP2.out.below hb)
    have RV3 := hidH (RV2.out.below hb)
    have RU3 := hidH hu
    have B3 := hidH (B2.out.trans (hb.mono B2.out.size))
    clear hb hu LP2 RV2 B2
    have HDI := hidH fun (W : World) (L : List Int) (b1 b2 b3 b4 : Nat) (h1 : Row W b1 b2 q L) (h2 : Row W b3 b4 u L) => deInts_yes q u L W _ _ _ _ h1.lies h2.lies
    rcases values_ways zs n c with ⟨he, hz, n1, n2, c1, c2, hva⟩ | he
    · rw [he]
      rw [hva] at RV3 RU3
      clear he hva
      have ⟨k1, hs⟩ := polyOk_small _ hz
      have k7 := hs.1
      obtain ⟨b1, off1, cp1, rfl, hlc1, hcm1, _, _, _, _⟩ := LP3.out.addr (by omega)
      unfold maxLen at hcm1
      obtain ⟨cn, rfl⟩ := Int.eq_ofNat_of_zero_le c1
      rw [Int.toNat_natCast] at RV3 RU3
      have HIV := hidH fun (hc : zs.length ≤ cn) (ht : tableOk (vals zs n cn) = true) (hsz : polyOk (shiftL zs n zs.length) = true) => inter_vals zs n cn hz hc (by omega) (by omega) ht hsz
      clear hz hs
      generalize vals zs n cn = V at *
      go_wp2_with fail
      refine (HDI.out w3 V _ _ _ _ RV3.out RU3.out).mono ?_; rintro e w4 ⟨rfl, hb⟩
      have LP4 := hidH (LP3.out.below hb)
      have RV4 := hidH (RV3.out.below hb)
      have RU4 := hidH (RU3.out.below hb)
      have B4 := hidH (B3.out.trans (hb.mono B3.out.size))
      clear hb LP3 RV3 RU3 B3
      by_cases hcn : cn < zs.length
      · have hcni : (cn : Int) < (zs.length : Int) := by omega
        go_wp2_with fail
        refine (HDI.out w4 V _ _ _ _ RV4.out RU4.out).mono ?_; rintro e w5 ⟨rfl, hb⟩
        have HB5 := hidH hb
        clear hb
        go_wp2_with fail
        go_ret
        exact ⟨rfl, B4.out.trans (HB5.out.mono B4.out.size)⟩
      · have hcni : ¬ (cn : Int) < (zs.length : Int) := by omega
        go_wp2_with fail
        refine (tableValid_any q V w4 _ _ RV4.out.lies).mono ?_; rintro e w5 ⟨rfl, hb⟩
        have LP5 := hidH (LP4.out.below hb)
        have RV5 := hidH (RV4.out.below hb)
        have RU5 := hidH (RU4.out.below hb)
        have B5 := hidH (B4.out.trans (hb.mono B4.out.size))
        clear hb LP4 RV4 RU4 B4
        cases ht : tableOk V
        · clear ht
          go_wp2_with fail
          refine (HDI.out w5 V _ _ _ _ RV5.out RU5.out).mono ?_; rintro e w6 ⟨rfl, hb⟩
          have HB6 := hidH hb
          clear hb
          go_wp2_with fail
          go_ret
          exact ⟨rfl, B5.out.trans (HB6.out.mono B5.out.size)⟩
        · have HTV := hidH (HIV.out (by omega) ht)
          clear ht
          go_wp2_with fail
          refine (inter_any q V w5 _ _ RV5.out.lies).mono ?_; rintro e w6 ⟨g, rfl, hg, hb⟩
          have LP6 := hidH (LP5.out.below hb)
          have RG6 := hidH hg
          have B6 := hidH (B5.out.trans (hb.mono B5.out.size))
          clear hb hg LP5 RV5 RU5 B5
          go_wp2_with fail
          refine (shift_any _ zs n w6 _ _ LP6.out).mono ?_; rintro e w7 ⟨sv, rfl, hg, hb⟩
          have RG7 := hidH (RG6.out.below hb)
          have RS7 := hidH hg
          have B7 := hidH (B6.out.trans (hb.mono B6.out.size))
          clear hb hg LP6 RG6 B6
          rcases shift_ways zs n with ⟨he, _, _, _, hsz, hsa⟩ | ⟨he, hsa⟩
          · have ⟨e1, e2⟩ := HTV.out hsz
            rw [he, e1]
            rw [e2] at RG7
            rw [hsa] at RS7
            clear he e1 e2 hsa hsz
            generalize shiftL zs n zs.length = S at *
            go_wp2_with fail
            refine (trim_any sv S w7 _ _ RS7.out.lies).mono ?_; rintro e w8 ⟨tv, rfl, hr, hb⟩
            have RT8 := hidH hr
            have RG8 := hidH (RG7.out.below hb)
            have HB8 := hidH hb
            clear hb hr
            generalize trimA S = T at *
            go_wp2_with fail
            refine (deInts_yes g tv T w8 _ _ _ _ RG8.out.lies RT8.out.lies).mono ?_; rintro e w9 ⟨rfl, hb⟩
            have HB9 := hidH (HB8.out.trans (hb.mono HB8.out.size))
            clear hb
            go_wp2_with fail
            go_ret
            exact ⟨rfl, B7.out.trans (HB9.out.mono B7.out.size)⟩
          · rw [he]
            clear he hsa
            cases hi : interB V
            · clear hi
              go_wp2_with fail
              go_ret
              exact ⟨rfl, B7.out⟩
            · clear hi
              go_wp2_with fail
              go_ret
              exact ⟨rfl, B7.out⟩
    · rw [he]
      clear he
      generalize valuesA zs n c = L at *
      go_wp2_with fail
      refine (HDI.out w3 L _ _ _ _ RV3.out RU3.out).mono ?_; rintro e w4 ⟨rfl, hb⟩
      have HB4 := hidH hb
      clear hb
      go_wp2_with fail
      refine (HDI.out w4 L _ _ _ _ (RV3.out.below HB4.out) (RU3.out.below HB4.out)).mono ?_; rintro e w5 ⟨rfl, hb⟩
      have HB5 := hidH (HB4.out.trans (hb.mono HB4.out.size))
      clear hb
      go_wp2_with fail
      go_ret
      exact ⟨rfl, B3.out.trans (HB5.out.mono B3.out.size)⟩
end Go.Proofs.Ytgenniaklpheoaa
