/-
  The walk of a law: the differences of a product follow from those of both. No conditions but that the bytes that came in can be read.
-/
import Derived.Test.YtgenniaklpheoaaKitS
import Derived.Test.YtgenniaklpheoaaDeFns
import Derived.Test.YtgenniaklpheoaaPolyAl
import Derived.Test.YtgenniaklpheoaaPolyFd
namespace Go.Proofs.Ytgenniaklpheoaa
open Go.RowKit
set_option maxHeartbeats 2000000 in
theorem lawMulDifference (a : Option Addr) (len cap : Nat) (w : World) (hc : Came w a len cap) : Calls Try.prog 4 #[.slice a len cap] w (Gives (.bool true) w) := by
  have hcap := hc.lenLe
  have hcap2 := hc.capLe
  unfold maxLen at hcap2
  by_cases hbig : 1048576 < len
  · clear hc
    go_enter Try.func4, Try.ntmps4
    go_wp2
    go_ret
    exact ⟨rfl, Below.refl _ _⟩
  · have HD := hidH (drawMulPolys a len cap w hc (by omega))
    clear hc
    go_enter Try.func4, Try.ntmps4
    go_wp2_with fail
    refine HD.out.mono ?_
    rintro e w1 ⟨v, t, zs, ys, rfl, hp, hq, h8, h8y, hB⟩
    have LP := hidH hp
    have LQ := hidH hq
    have B1 := hidH hB
    clear hp hq hB HD
    go_wp2_with fail
    refine (mul_any v zs t ys w1 _ _ _ _ LP.out LQ.out).mono ?_; rintro e w2 ⟨q, rfl, hq, hb⟩
    have LP2 := hidH (LP.out.below hb)
    have LQ2 := hidH (LQ.out.below hb)
    have RS2 := hidH hq
    have B2 := hidH (B1.out.trans (hb.mono B1.out.size))
    clear hb hq LP LQ B1
    go_wp2_with fail
    refine (sMul_any v zs t ys w2 _ _ _ _ LP2.out LQ2.out).mono ?_; rintro e w3 ⟨u, rfl, hu, hb⟩
    have LP3 := hidH (LP2.out.below hb)
    have LQ3 := hidH (LQ2.out.below hb)
    have RS3 := hidH (RS2.out.below hb)
    have RU3 := hidH hu
    have B3 := hidH (B2.out.trans (hb.mono B2.out.size))
    clear hb hu LP2 LQ2 RS2 B2
    rcases mul_ways zs ys with ⟨he, hz, hy, hl8, hm, hsa⟩ | he
    · rw [he]
      rw [hsa] at RS3 RU3
      clear he hsa
      have HMD := hidH fun (n : Int) => mul_diff zs ys n hz hy hl8 hm
      clear hz hy hl8 hm
      generalize mulL zs ys = SL at *
      go_wp2_with fail
      refine (deInts_yes q u SL w3 _ _ _ _ RS3.out.lies RU3.out.lies).mono ?_; rintro e w4 ⟨rfl, hb⟩
      have LP4 := hidH (LP3.out.below hb)
      have LQ4 := hidH (LQ3.out.below hb)
      have RS4 := hidH (RS3.out.below hb)
      have B4 := hidH (B3.out.trans (hb.mono B3.out.size))
      clear hb LP3 LQ3 RS3 RU3 B3
      go_wp2_with fail
      refine (difference_any q SL w4 _ _ RS4.out.lies).mono ?_; rintro e w5 ⟨dv, rfl, hr, hb⟩
      have LP5 := hidH (LP4.out.below hb)
      have LQ5 := hidH (LQ4.out.below hb)
      have RD5 := hidH hr
      have B5 := hidH (B4.out.trans (hb.mono B4.out.size))
      clear hb hr LP4 LQ4 RS4 B4
      go_wp2_with fail
      refine (difference_any v zs w5 _ _ LP5.out).mono ?_; rintro e w6 ⟨xv, rfl, hr, hb⟩
      have LP6 := hidH (LP5.out.below hb)
      have LQ6 := hidH (LQ5.out.below hb)
      have RD6 := hidH (RD5.out.below hb)
      have RX6 := hidH hr
      have B6 := hidH (B5.out.trans (hb.mono B5.out.size))
      clear hb hr LP5 LQ5 RD5 B5
      go_wp2_with fail
      refine (difference_any t ys w6 _ _ LQ6.out).mono ?_; rintro e w7 ⟨yv, rfl, hr, hb⟩
      have LP7 := hidH (LP6.out.below hb)
      have LQ7 := hidH (LQ6.out.below hb)
      have RD7 := hidH (RD6.out.below hb)
      have RX7 := hidH (RX6.out.below hb)
      have RY7 := hidH hr
      have B7 := hidH (B6.out.trans (hb.mono B6.out.size))
      clear hb hr LP6 LQ6 RD6 RX6 B6
      generalize diffA SL = D at *
      generalize diffA zs = X at *
      generalize diffA ys = Y at *
      have HED := hidH fun (W : World) (j : Int) (hb : Below w7.heap.size w7 W) => (at_any dv D j W _ _ ((RD7.out.below hb).lies)).mono fun e w' (h : Gives _ W e w') => (⟨h.1, hb.trans (h.2.mono hb.size)⟩ : e = .returned (.int .i64 (evA D j)) ∧ Below w7.heap.size w7 w')
      have HEP := hidH fun (W : World) (j : Int) (hb : Below w7.heap.size w7 W) => (at_any v zs j W _ _ (LP7.out.below hb)).mono fun e w' (h : Gives _ W e w') => (⟨h.1, hb.trans (h.2.mono hb.size)⟩ : e = .returned (.int .i64 (evA zs j)) ∧ Below w7.heap.size w7 w')
      have HEY := hidH fun (W : World) (j : Int) (hb : Below w7.heap.size w7 W) => (at_any yv Y j W _ _ ((RY7.out.below hb).lies)).mono fun e w' (h : Gives _ W e w') => (⟨h.1, hb.trans (h.2.mono hb.size)⟩ : e = .returned (.int .i64 (evA Y j)) ∧ Below w7.heap.size w7 w')
      have HEX := hidH fun (W : World) (j : Int) (hb : Below w7.heap.size w7 W) => (at_any xv X j W _ _ ((RX7.out.below hb).lies)).mono fun e w' (h : Gives _ W e w') => (⟨h.1, hb.trans (h.2.mono hb.size)⟩ : e = .returned (.int .i64 (evA X j)) ∧ Below w7.heap.size w7 w')
      have HEQ := hidH fun (W : World) (j : Int) (hb : Below w7.heap.size w7 W) => (at_any t ys j W _ _ (LQ7.out.below hb)).mono fun e w' (h : Gives _ W e w') => (⟨h.1, hb.trans (h.2.mono hb.size)⟩ : e = .returned (.int .i64 (evA ys j)) ∧ Below w7.heap.size w7 w')
      go_wp2_with fail
      go_loopw [12] (fun i wr => ∃ k : Nat, k ≤ 13 ∧ i = .int .i64 ((k : Int) - 6) ∧ Below w7.heap.size w7 wr) (fun i _ => (7 - intOf i).toNat)
      case atStart => exact ⟨0, by omega, rfl, Below.refl _ _⟩
      case round =>
        obtain ⟨k, hk, rfl, hb⟩ := hrel
        have HBq := hidH hb
        clear hb
        by_cases hlt : k < 13
        · have hmd := HMD.out ((k : Int) - 6) (by omega) (by omega)
          have hwd := wrap_evA D ((k : Int) - 6)
          generalize hc1 : evA D ((k : Int) - 6) = c1 at *
          have H1 := hidH hc1
          clear hc1
          generalize hc2 : evA zs ((k : Int) - 6 + 1) = c2 at *
          have H2 := hidH hc2
          clear hc2
          generalize hc3 : evA Y ((k : Int) - 6) = c3 at *
          have H3 := hidH hc3
          clear hc3
          generalize hc4 : evA X ((k : Int) - 6) = c4 at *
          have H4 := hidH hc4
          clear hc4
          generalize hc5 : evA ys ((k : Int) - 6) = c5 at *
          have H5 := hidH hc5
          clear hc5
          have hws := wrap_sum (c2 * c3) (c4 * c5)
          rw [← hmd, hwd] at hws
          clear hmd hwd
          have hne : (c1 != IntKind.i64.wrap (IntKind.i64.wrap (c2 * c3) + IntKind.i64.wrap (c4 * c5))) = false := by rw [hws]; simp
          have hne2 : (c1 != wrap64 (wrap64 (c2 * c3) + wrap64 (c4 * c5))) = false := by rw [← wrap_i, ← wrap_i, ← wrap_i]; exact hne
          go_wp2_with fail
          refine (HED.out wr ((k : Int) - 6) HBq.out).mono ?_; rintro e w8 ⟨rfl, hb⟩
          have HB8 := hidH hb
          rw [H1.out]
          clear hb
          go_wp2_with fail
          refine (HEP.out w8 ((k : Int) - 6 + 1) HB8.out).mono ?_; rintro e w9 ⟨rfl, hb⟩
          have HB9 := hidH hb
          rw [H2.out]
          clear hb
          go_wp2_with fail
          refine (HEY.out w9 ((k : Int) - 6) HB9.out).mono ?_; rintro e w10 ⟨rfl, hb⟩
          have HB10 := hidH hb
          rw [H3.out]
          clear hb
          go_wp2_with fail
          refine (HEX.out w10 ((k : Int) - 6) HB10.out).mono ?_; rintro e w11 ⟨rfl, hb⟩
          have HB11 := hidH hb
          rw [H4.out]
          clear hb
          go_wp2_with fail
          refine (HEQ.out w11 ((k : Int) - 6) HB11.out).mono ?_; rintro e w12 ⟨rfl, hb⟩
          have HB12 := hidH hb
          rw [H5.out]
          clear hb
          go_wp2_with fail
          go_roundw
          case rel => exact ⟨k + 1, by omega, by rw [show ((k + 1 : Nat) : Int) - 6 = (k : Int) - 6 + 1 by omega], HB12.out⟩
          case measure => simp [intOf]; omega
        · obtain rfl : k = 13 := by omega
          go_wp2_with fail
          go_ret
          exact ⟨rfl, B7.out.trans (HBq.out.mono B7.out.size)⟩
    · rw [he]
      clear he
      generalize mulA zs ys = L at *
      go_wp2_with fail
      refine (deInts_yes q u L w3 _ _ _ _ RS3.out.lies RU3.out.lies).mono ?_; rintro e w4 ⟨rfl, hb⟩
      have HB4 := hidH hb
      clear hb
      go_wp2_with fail
      refine (deInts_yes q u L w4 _ _ _ _ (RS3.out.below HB4.out).lies (RU3.out.below HB4.out).lies).mono ?_; rintro e w5 ⟨rfl, hb⟩
      have HB5 := hidH (HB4.out.trans (hb.mono HB4.out.size))
      clear hb
      go_wp2_with fail
      go_ret
      exact ⟨rfl, B3.out.trans (HB5.out.mono B3.out.size)⟩
end Go.Proofs.Ytgenniaklpheoaa
