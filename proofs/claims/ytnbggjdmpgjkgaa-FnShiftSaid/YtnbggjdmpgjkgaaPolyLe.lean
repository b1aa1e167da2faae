/-
  The walk of a law: shifting by one more adds to each difference the next higher one. No conditions but that the bytes that came in can be read.
-/
import Derived.Test.YtnbggjdmpgjkgaaKitR
import Derived.Test.YtnbggjdmpgjkgaaDeFns
import Derived.Test.YtnbggjdmpgjkgaaPolyFa
namespace Go.Proofs.Ytnbggjdmpgjkgaa
open Go.RowKit
theorem shift_ways (zs : List Int) (n : Int) : (shiftB zs n = true ∧ polyOk zs = true ∧ -200 ≤ n ∧ n ≤ 200 ∧ polyOk (shiftL zs n zs.length) = true ∧ shiftA zs n = shiftL zs n zs.length) ∨ (shiftB zs n = false ∧ shiftA zs n = []) := by
  unfold shiftB shiftA
  cases h : polyOk zs
  · exact .inr ⟨rfl, rfl⟩
  · cases h2 : inB 200 n
    · exact .inr ⟨rfl, rfl⟩
    · have hb := of_decide_eq_true h2
      cases h3 : polyOk (shiftL zs n zs.length)
      · exact .inr ⟨rfl, by show resL _ = _; rw [resL, h3]; rfl⟩
      · exact .inl ⟨rfl, rfl, hb.1, hb.2, rfl, by show resL _ = _; rw [resL, h3]; rfl⟩
theorem last_zero (zs : List Int) (n : Int) (k : Nat) (h : zs.length ≤ k + 1) : evP (zs.drop k) n + 0 = evP (zs.drop k) (n + 1) := by
  rw [← shift_step, List.drop_eq_nil_of_le h]; rfl
set_option maxHeartbeats 1000000 in
theorem lawShiftStep (a : Option Addr) (len cap : Nat) (w : World) (hc : Came w a len cap) : Calls Try.prog 8 #[.slice a len cap] w (Gives (.bool true) w) := by
  have hcap := hc.lenLe
  have hcap2 := hc.capLe
  unfold maxLen at hcap2
  by_cases hbig : 1048576 < len
  · clear hc
    go_enter Try.func8, Try.ntmps8
    go_wp2
    go_ret
    exact ⟨rfl, Below.refl _ _⟩
  · have HD := hidH (drawShiftPoly a len cap w hc (by omega))
    clear hc
    go_enter Try.func8, Try.ntmps8
    go_wp2_with fail
    refine HD.out.mono ?_
    rintro e w1 ⟨v, zs, n, rfl, hrow, h8, hB⟩
    have RW := hidH hrow
    have B1 := hidH hB
    clear hrow hB HD
    go_wp2_with fail
    refine (shift_any v zs n w1 _ _ RW.out.lies).mono ?_; rintro e w2 ⟨q, rfl, hq, hb⟩
    have RW2 := hidH (RW.out.below hb)
    have RQ2 := hidH hq
    have B2 := hidH (B1.out.trans (hb.mono B1.out.size))
    clear hb hq RW
    go_wp2_with fail
    refine (sShift_any v zs n w2 _ _ RW2.out.lies).mono ?_; rintro e w3 ⟨u, rfl, hu, hb⟩
    have RW3 := hidH (RW2.out.below hb)
    have RQ3 := hidH (RQ2.out.below hb)
    have RU3 := hidH hu
    have B3 := hidH (B2.out.trans (hb.mono B2.out.size))
    clear hb hu RW2 RQ2
    rcases shift_ways zs n with ⟨he, hz, n1, n2, hsz, hsa⟩ | ⟨he, hsa⟩
    · rw [he]
      have HSA := hidH hsa
      have hlq : (shiftA zs n).length = zs.length := by rw [hsa, shiftL_length]
      have ⟨k1, hs⟩ := polyOk_small _ hz
      have k7 := hs.1
      obtain ⟨b, cp, rfl, hlc, hcm, _, hbh, hblk⟩ := RQ3.out.blk (by omega)
      rw [hlq] at hlc ⊢
      have HBL := hidH hblk
      have HSM := hidH hs
      unfold maxLen at hcm
      clear he hsa hblk hsz hz hs
      go_wp2_with fail
      have hcal := deInts_yes _ u (shiftA zs n) w3 _ _ _ _ RQ3.out.lies RU3.out.lies
      rw [hlq] at hcal
      refine hcal.mono ?_; rintro e w4 ⟨rfl, hb⟩
      have HB4 := hidH hb
      clear hb hcal
      by_cases hn : 200 ≤ n
      · go_wp2_with fail
        have hcal := deInts_yes _ u (shiftA zs n) w4 _ _ _ _ (RQ3.out.below HB4.out).lies (RU3.out.below HB4.out).lies
        rw [hlq] at hcal
        refine hcal.mono ?_; rintro e w5 ⟨rfl, hb⟩
        have HB5 := hidH (HB4.out.trans (hb.mono HB4.out.size))
        clear hb hcal
        go_wp2_with fail
        go_ret
        exact ⟨rfl, B3.out.trans (HB5.out.mono B3.out.size)⟩
      · clear hlq
        go_wp2_with fail
        refine (shift_any v zs (n + 1) w4 _ _ (RW3.out.below HB4.out).lies).mono ?_; rintro e w5 ⟨nx, rfl, hx, hb⟩
        have RX5 := hidH hx
        have HB5 := hidH (HB4.out.trans (hb.mono HB4.out.size))
        have hs5 := HB5.out.size
        clear hb hx
        rcases shift_ways zs (n + 1) with ⟨he, hz, n3, n4, hsz, hsa⟩ | ⟨he, hsa⟩
        · rw [he]
          have HSX := hidH hsa
          have hlx : (shiftA zs (n + 1)).length = zs.length := by rw [hsa, shiftL_length]
          obtain ⟨b2, cp2, rfl, hlc2, hcm2, _, hbh2, hblk2⟩ := RX5.out.blk (by omega)
          rw [hlx] at hlc2 ⊢
          have HBX := hidH hblk2
          unfold maxLen at hcm2
          clear he hsa hblk2 hsz hz hlx
          go_wp2_with fail
          go_loopw [11] (fun i wr => ∃ k : Nat, k ≤ zs.length ∧ i = .int .i64 k ∧ Below w5.heap.size w5 wr) (fun i _ => zs.length - (intOf i).toNat)
          case atStart => exact ⟨0, Nat.zero_le _, rfl, Below.refl _ _⟩
          case round =>
            obtain ⟨k, hk, rfl, hb⟩ := hrel
            have HBq := hidH hb
            clear hb
            by_cases hlt : k < zs.length
            · have hx0 := (HBX.out.2 k (evP (zs.drop k) (n + 1)) (by rw [HSX.out]; exact shiftL_get _ _ _ _ hlt)).1
              have hq0 := (HBL.out.2 k (evP (zs.drop k) n) (by rw [HSA.out]; exact shiftL_get _ _ _ _ hlt)).1
              have hcx : wr.cell? ⟨b2, k, none⟩ = some (.int .i64 (evP (zs.drop k) (n + 1))) := by rw [HBq.out.cell (p := ⟨b2, k, none⟩) HBX.out.1]; exact hx0
              have hcq : wr.cell? ⟨b, k, none⟩ = some (.int .i64 (evP (zs.drop k) n)) := by rw [(HB5.out.trans (HBq.out.mono hs5)).cell (p := ⟨b, k, none⟩) HBL.out.1]; exact hq0
              have ⟨b1, b2'⟩ := (HSM.out.drop k).bd n (by omega) (by omega)
              have ⟨b3, b4⟩ := (HSM.out.drop (k + 1)).bd n (by omega) (by omega)
              have v1 : IntKind.i64.wrap ((k : Int) + 1) = (k : Int) + 1 := IntWalk.i64_in _ (by omega)
              clear hx0 hq0
              by_cases hlt2 : k + 1 < zs.length
              · have hq1 := (HBL.out.2 (k + 1) (evP (zs.drop (k + 1)) n) (by rw [HSA.out]; exact shiftL_get _ _ _ _ hlt2)).1
                have hcq1 : wr.cell? ⟨b, k + 1, none⟩ = some (.int .i64 (evP (zs.drop (k + 1)) n)) := by rw [(HB5.out.trans (HBq.out.mono hs5)).cell (p := ⟨b, k + 1, none⟩) HBL.out.1]; exact hq1
                have HE := hidH (shift_step zs n k)
                clear hq1
                generalize evP (zs.drop k) (n + 1) = x at *
                generalize evP (zs.drop k) n = y at *
                generalize evP (zs.drop (k + 1)) n = z at *
                have hbb : (x != y + z) = false := by rw [HE.out]; simp
                have v2 : IntKind.i64.wrap (y + z) = y + z := IntWalk.i64_in _ (by omega)
                go_wp2_with fail
                go_quiet (fail)
                go_wp2_with fail
                go_roundw
                case rel => exact ⟨k + 1, by omega, by go_num, below_drewN HBq.out _⟩
                case measure => simp [intOf]; omega
              · have HE := hidH (last_zero zs n k (by omega))
                clear b3 b4
                generalize evP (zs.drop k) (n + 1) = x at *
                generalize evP (zs.drop k) n = y at *
                have hbb : (x != y + 0) = false := by rw [HE.out]; simp
                have hbb2 : (x != y) = false := by rw [← HE.out]; simp
                have v2 : IntKind.i64.wrap (y + 0) = y := by rw [Int.add_zero]; exact IntWalk.i64_in _ (by omega)
                have v3 : IntKind.i64.wrap y = y := IntWalk.i64_in _ (by omega)
                go_wp2_with fail
                go_quiet (fail)
                go_wp2_with fail
                go_roundw
                case rel => exact ⟨k + 1, by omega, by go_num, below_drewN HBq.out _⟩
                case measure => simp [intOf]; omega
            · obtain rfl : k = zs.length := by omega
              go_wp2_with fail
              go_ret
              exact ⟨rfl, (B3.out.trans (HB5.out.mono B3.out.size)).trans (HBq.out.mono (by have := B3.out.size; omega))⟩
        · rw [he]
          obtain ⟨a2, cp2, rfl, _⟩ := RX5.out
          rw [hsa]
          clear he hsa RX5
          go_wp2_with fail
          go_loop [11] (fun i => i = .int .i64 0) (fun _ => 0)
          case atStart => rfl
          case round =>
            obtain rfl := hrel
            go_wp2_with fail
            go_ret
            exact ⟨rfl, B3.out.trans (HB5.out.mono B3.out.size)⟩
    · rw [he]
      clear he
      generalize shiftA zs n = L at *
      go_wp2_with fail
      refine (deInts_yes q u L w3 _ _ _ _ RQ3.out.lies RU3.out.lies).mono ?_; rintro e w4 ⟨rfl, hb⟩
      have HB4 := hidH hb
      clear hb
      go_wp2_with fail
      refine (deInts_yes q u L w4 _ _ _ _ (RQ3.out.below HB4.out).lies (RU3.out.below HB4.out).lies).mono ?_; rintro e w5 ⟨rfl, hb⟩
      have HB5 := hidH (HB4.out.trans (hb.mono HB4.out.size))
      clear hb
      go_wp2_with fail
      go_ret
      exact ⟨rfl, B3.out.trans (HB5.out.mono B3.out.size)⟩
end Go.Proofs.Ytnbggjdmpgjkgaa
