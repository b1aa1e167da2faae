/-
  The walk of a law: the values of a sum are the value at 0 and all values so far, and its differences are the polynomial. No conditions but that the bytes that came in can be read.
-/
import Derived.Test.YtnbggjdmpgjkgaaKitR
import Derived.Test.YtnbggjdmpgjkgaaDeFns
import Derived.Test.YtnbggjdmpgjkgaaPolyLc
import Derived.Test.YtnbggjdmpgjkgaaPolyM
namespace Go.Proofs.Ytnbggjdmpgjkgaa
open Go.RowKit
theorem sum_ways (zs : List Int) (c : Int) : (sumB zs c = true ∧ polyOk zs = true ∧ polyOk (c :: zs) = true ∧ sumA zs c = c :: zs) ∨ sumB zs c = false := by
  unfold sumB sumA
  cases h : polyOk zs
  · exact .inr rfl
  · cases h2 : polyOk (c :: zs)
    · exact .inr rfl
    · exact .inl ⟨rfl, rfl, rfl, by rw [if_pos rfl, resL, h2]; rfl⟩
theorem sum_law (zs : List Int) (c : Int) (k : Nat) (hz : polyOk zs = true) (hc : polyOk (c :: zs) = true) (hk : k < 12) : evA (c :: zs) ((k + 1 : Nat) : Int) = evA (c :: zs) k + evA zs k := by
  rw [evA_ok _ _ hc (by omega) (by omega), evA_ok _ _ hc (by omega) (by omega), evA_ok _ _ hz (by omega) (by omega), show ((k + 1 : Nat) : Int) = (k : Int) + 1 by omega, evP_step]
  rfl
set_option maxHeartbeats 1000000 in
theorem lawSumDifference (a : Option Addr) (len cap : Nat) (w : World) (hc : Came w a len cap) : Calls Try.prog 9 #[.slice a len cap] w (Gives (.bool true) w) := by
  have hcap := hc.lenLe
  have hcap2 := hc.capLe
  unfold maxLen at hcap2
  by_cases hbig : 1048576 < len
  · clear hc
    go_enter Try.func9, Try.ntmps9
    go_wp2
    go_ret
    exact ⟨rfl, Below.refl _ _⟩
  · have HD := hidH (drawSumPoly a len cap w hc (by omega))
    clear hc
    go_enter Try.func9, Try.ntmps9
    go_wp2_with fail
    refine HD.out.mono ?_
    rintro e w1 ⟨v, zs, c, rfl, hrow, h8, hB⟩
    have RW := hidH hrow
    have B1 := hidH hB
    clear hrow hB HD
    go_wp2_with fail
    refine (sum_any v zs c w1 _ _ RW.out.lies).mono ?_; rintro e w2 ⟨q, rfl, hq, hb⟩
    have RW2 := hidH (RW.out.below hb)
    have RQ2 := hidH hq
    have B2 := hidH (B1.out.trans (hb.mono B1.out.size))
    clear hb hq RW
    go_wp2_with fail
    refine (sSum_any v zs c w2 _ _ RW2.out.lies (by omega)).mono ?_; rintro e w3 ⟨u, rfl, hu, hb⟩
    have RW3 := hidH (RW2.out.below hb)
    have RQ3 := hidH (RQ2.out.below hb)
    have RU3 := hidH hu
    have B3 := hidH (B2.out.trans (hb.mono B2.out.size))
    clear hb hu RW2 RQ2
    rcases sum_ways zs c with ⟨he, hz, hcz, hsa⟩ | he
    · rw [he]
      rw [hsa] at RQ3 RU3
      clear he hsa
      have ⟨k1, k2⟩ := (listOk_iff _ _ _).1 hz
      obtain ⟨b, cp, rfl, hlc, hcm, _, _, hblk⟩ := RQ3.out.blk (by simp)
      have hc0 := (hblk.2 0 c rfl).1
      have hbw := hblk.1
      have HC0 := hidH hc0
      have HQ := hidH fun (W : World) (n : Int) (hb : Below w3.heap.size w3 W) => (at_any _ (c :: zs) n W _ _ (RQ3.out.below hb).lies).mono fun e w' (h : Gives _ W e w') => (⟨h.1, hb.trans (h.2.mono hb.size)⟩ : e = .returned (.int .i64 (evA (c :: zs) n)) ∧ Below w3.heap.size w3 w')
      have HP := hidH fun (W : World) (n : Int) (hb : Below w3.heap.size w3 W) => (at_any _ zs n W _ _ (RW3.out.below hb).lies).mono fun e w' (h : Gives _ W e w') => (⟨h.1, hb.trans (h.2.mono hb.size)⟩ : e = .returned (.int .i64 (evA zs n)) ∧ Below w3.heap.size w3 w')
      have HDA := hidH (show diffA (c :: zs) = zs by unfold diffA; rw [hcz, if_pos rfl, if_neg (by rw [List.length_cons]; omega)]; rfl)
      have HSL := hidH fun (k : Nat) (hk : k < 12) => sum_law zs c k hz hcz hk
      have HS0 := hidH (show evA (c :: zs) 0 = c from first_law (c :: zs) c rfl hcz)
      clear hblk hc0 hz hcz k2
      go_wp2_with fail
      refine (deInts_yes _ u (c :: zs) w3 _ _ _ _ RQ3.out.lies RU3.out.lies).mono ?_; rintro e w4 ⟨rfl, hb⟩
      have HB4 := hidH hb
      clear hb
      go_wp2_with fail
      go_loopw [9, 10] (fun s i wr => ∃ k : Nat, k ≤ 12 ∧ i = .int .i64 k ∧ s = .int .i64 (evA (c :: zs) k) ∧ Below w3.heap.size w3 wr) (fun _ i _ => 12 - (intOf i).toNat)
      case atStart => exact ⟨0, by omega, rfl, by rw [show ((0 : Nat) : Int) = 0 from rfl, HS0.out], HB4.out⟩
      case round =>
        obtain ⟨k, hk, rfl, rfl, hb⟩ := hrel
        have HBq := hidH hb
        clear hb
        by_cases hlt : k < 12
        · have ⟨d1, d2⟩ := evA_bd (c :: zs) k
          have ⟨d3, d4⟩ := evA_bd zs k
          have HSK := hidH (HSL.out k hlt)
          go_wp2_with fail
          refine (HQ.out wr k HBq.out).mono ?_; rintro e w5 ⟨rfl, hb⟩
          have HB5 := hidH hb
          clear hb
          generalize evA (c :: zs) (k : Int) = x at *
          go_wp2_with fail
          refine (HP.out w5 k HB5.out).mono ?_; rintro e w6 ⟨rfl, hb⟩
          have HB6 := hidH hb
          clear hb
          generalize evA zs (k : Int) = y at *
          go_wp2_with fail
          go_roundw
          case rel => exact ⟨k + 1, by omega, by go_num, by rw [HSK.out], HB6.out⟩
          case measure => simp [intOf]; omega
        · obtain rfl : k = 12 := by omega
          generalize evA (c :: zs) ((12 : Nat) : Int) = x at *
          have RQr := hidH (RQ3.out.below HBq.out)
          go_wp2_with fail
          refine (difference_any _ (c :: zs) wr _ _ RQr.out.lies).mono ?_; rintro e w5 ⟨dv, rfl, hr, hb⟩
          rw [HDA.out] at hr
          have RD := hidH hr
          have HB5 := hidH (HBq.out.trans (hb.mono HBq.out.size))
          clear hr hb
          go_wp2_with fail
          refine (deInts_yes dv v zs w5 _ _ _ _ RD.out.lies (RW3.out.below HB5.out).lies).mono ?_; rintro e w6 ⟨rfl, hb⟩
          have HB6 := hidH (HB5.out.trans (hb.mono HB5.out.size))
          have hcd : w6.cell? ⟨b, 0, none⟩ = some (.int .i64 c) := by rw [HB6.out.cell (p := ⟨b, 0, none⟩) hbw]; exact HC0.out
          clear hb
          go_wp2_with fail
          go_ret
          exact ⟨rfl, B3.out.trans (HB6.out.mono B3.out.size)⟩
    · rw [he]
      clear he
      generalize sumA zs c = L at *
      go_wp2_with fail
      refine (deInts_yes q u L w3 _ _ _ _ RQ3.out.lies RU3.out.lies).mono ?_; rintro e w4 ⟨rfl, hb⟩
      have HB4 := hidH hb
      clear hb
      go_wp2_with fail
      refine (deInts_yes q u L w4 _ _ _ _ (RQ3.out.below HB4.out).lies (RU3.out.below HB4.out).lies).mono ?_; rintro e w5 ⟨rfl, hb⟩
      have HB5 := hidH (HB4.out.trans (hb.mono HB4.out.size))
      clear hb
      go_wp2_with fail
      go_ret
      exact ⟨rfl, B3.out.trans (HB5.out.mono B3.out.size)⟩
end Go.Proofs.Ytnbggjdmpgjkgaa
