/-
  The walk of a law: the powers of a polynomial give its values, times the common number. No conditions but that the bytes that came in can be read.
-/
import Derived.Test.YtgenniaklpheoaaKitR
import Derived.Test.YtgenniaklpheoaaDeFns
import Derived.Test.YtgenniaklpheoaaPolyLc
import Derived.Test.YtgenniaklpheoaaPolyFi
namespace Go.Proofs.Ytgenniaklpheoaa
open Go.RowKit
theorem pwW_wrap (n : Int) (c : List Int) : pwW n c = wrap64 (pw n c) := by
  induction c with
  | nil => rw [pwW, pw]; unfold wrap64; omega
  | cons x c ih =>
    rw [pwW, pw, ih, Int.mul_comm, Int.mul_comm (pw n c)]
    have h := wrap_sub 0 (-n) (pw n c)
    have e0 : wrap64 0 = 0 := by unfold wrap64; omega
    rw [e0, Int.zero_sub, Int.zero_sub, Int.neg_mul, Int.neg_neg, Int.neg_mul, Int.neg_neg] at h
    rw [h]
    generalize n * pw n c = y
    unfold wrap64
    omega
theorem pow_value (zs : List Int) (n : Int) (hz : polyOk zs = true) (h1 : -200 ≤ n) (h2 : n ≤ 200) : pwW n (powL zs) = wrap64 (720 * evA zs n) := by
  rw [pwW_wrap, pw_powL zs (polyOk_small _ hz).2.1, evA_ok zs n hz h1 h2]
set_option maxHeartbeats 2000000 in
theorem lawPowersOf (a : Option Addr) (len cap : Nat) (w : World) (hc : Came w a len cap) : Calls Try.prog 7 #[.slice a len cap] w (Gives (.bool true) w) := by
  have hcap := hc.lenLe
  have hcap2 := hc.capLe
  unfold maxLen at hcap2
  by_cases hbig : 1048576 < len
  · clear hc
    go_enter Try.func7, Try.ntmps7
    go_wp2
    go_ret
    exact ⟨rfl, Below.refl _ _⟩
  · have HD := hidH (drawPowersOf a len cap w hc (by omega))
    clear hc
    go_enter Try.func7, Try.ntmps7
    go_wp2_with fail
    refine HD.out.mono ?_
    rintro e w1 ⟨v, zs, rfl, hrow, h8, hB⟩
    have LP := hidH hrow.lies
    have B1 := hidH hB
    clear hrow hB HD
    go_wp2_with fail
    refine (pow_any v zs w1 _ _ LP.out).mono ?_; rintro e w2 ⟨q, rfl, hq, hb⟩
    have LP2 := hidH (LP.out.below hb)
    have RC2 := hidH hq
    have B2 := hidH (B1.out.trans (hb.mono B1.out.size))
    clear hb hq LP B1
    go_wp2_with fail
    refine (sPow_any v zs w2 _ _ LP2.out (by omega)).mono ?_; rintro e w3 ⟨u, rfl, hu, hb⟩
    have LP3 := hidH (LP2.out.below hb)
    have RC3 := hidH (RC2.out.below hb)
    have RU3 := hidH hu
    have B3 := hidH (B2.out.trans (hb.mono B2.out.size))
    clear hb hu LP2 RC2 B2
    cases hz : polyOk zs
    · have HZ := hidH hz
      have hp : powA zs = [] := by rw [powA, hz]; rfl
      rw [hp] at RC3 RU3
      clear hz hp
      obtain ⟨a2, cp2, rfl, _⟩ := id RC3.out
      go_wp2_with fail
      refine (deInts_yes _ u [] w3 _ _ _ _ RC3.out.lies RU3.out.lies).mono ?_; rintro e w4 ⟨rfl, hb⟩
      have LP4 := hidH (LP3.out.below hb)
      have RC4 := hidH (RC3.out.below hb)
      have B4 := hidH (B3.out.trans (hb.mono B3.out.size))
      clear hb LP3 RC3 RU3 B3
      go_wp2_with fail
      refine (sPow_any v zs w4 _ _ LP4.out (by omega)).mono ?_; rintro e w5 ⟨u5, rfl, hu, hb⟩
      rw [show powA zs = [] by rw [powA, HZ.out]; rfl] at hu
      have LP5 := hidH (LP4.out.below hb)
      have RC5 := hidH (RC4.out.below hb)
      have RU5 := hidH hu
      have B5 := hidH (B4.out.trans (hb.mono B4.out.size))
      clear hb hu LP4 RC4 B4
      go_wp2_with fail
      refine (deInts_yes _ u5 [] w5 _ _ _ _ RC5.out.lies RU5.out.lies).mono ?_; rintro e w6 ⟨rfl, hb⟩
      have LP6 := hidH (LP5.out.below hb)
      have B6 := hidH (B5.out.trans (hb.mono B5.out.size))
      clear hb
      go_wp2_with fail
      refine (polyValid_any v zs w6 _ _ LP6.out).mono ?_; rintro e w7 ⟨rfl, hb⟩
      rw [HZ.out]
      have B7 := hidH (B6.out.trans (hb.mono B6.out.size))
      clear hb
      go_wp2_with fail
      go_ret
      exact ⟨rfl, B7.out⟩
    · have ⟨k1, hs⟩ := polyOk_small _ hz
      have k7 := hs.1
      have hp : powA zs = powL zs := by rw [powA, hz]; rfl
      have hpl := powL_length zs
      have HPV := hidH fun (n : Int) => pow_value zs n hz
      rw [hp] at RC3 RU3
      clear hz hp hs
      generalize powL zs = C at *
      obtain ⟨b, cp, rfl, hlc, hcm, _, _, hblk⟩ := RC3.out.blk (by omega)
      obtain ⟨b1, off1, cp1, rfl, hlc1, hcm1, _, _, _, _⟩ := LP3.out.addr (by omega)
      unfold maxLen at hcm hcm1
      rw [hpl] at hlc ⊢
      rw [hpl] at RC3
      have HBL := hidH hblk
      have HPL := hidH hpl
      have hl0 : ((zs.length : Int) == 0) = false := beq_eq_false_iff_ne.2 (by omega)
      clear hblk hpl
      go_wp2_with fail
      refine (deInts_yes _ u C w3 _ _ _ _ RC3.out.lies RU3.out.lies).mono ?_; rintro e w4 ⟨rfl, hb⟩
      have HB4 := hidH hb
      have HE := hidH fun (W : World) (j : Int) (hb : Below w3.heap.size w3 W) => (at_any _ zs j W _ _ (LP3.out.below hb)).mono fun e w' (h : Gives _ W e w') => (⟨h.1, hb.trans (h.2.mono hb.size)⟩ : e = .returned (.int .i64 (evA zs j)) ∧ Below w3.heap.size w3 w')
      clear hb
      go_wp2_with fail
      go_loopw [5] (fun i wr => ∃ n : Int, -7 ≤ n ∧ n ≤ 8 ∧ i = .int .i64 n ∧ Below w3.heap.size w3 wr) (fun i _ => (8 - intOf i).toNat)
      case atStart => exact ⟨-7, by omega, by omega, rfl, HB4.out⟩
      case round =>
        obtain ⟨n, hn, hk, rfl, hb⟩ := hrel
        have HBq := hidH hb
        clear hb
        by_cases hlt : n < 8
        · obtain ⟨wo, rfl⟩ : ∃ wo, wo = wr := ⟨wr, rfl⟩
          have hcw : ∀ (j : Nat) z, C[j]? = some z → wo.cell? ⟨b, j, none⟩ = some (.int .i64 z) := fun j z hz => by rw [HBq.out.cell (p := ⟨b, j, none⟩) HBL.out.1]; exact (HBL.out.2 j z hz).1
          have HCW := hidH hcw
          clear hcw
          go_wp2_with fail
          go_loopw [6, 7] (fun o i wr => ∃ j : Nat, j ≤ zs.length ∧ i = .int .i64 ((j : Int) - 1) ∧ o = .int .i64 (pwW n (C.drop j)) ∧ wr = wo) (fun _ i _ => (intOf i + 1).toNat)
          case atStart => exact ⟨zs.length, Nat.le_refl _, rfl, by rw [← HPL.out, List.drop_length]; rfl, rfl⟩
          case round =>
            obtain ⟨j, hj, rfl, rfl, hww⟩ := hrel
            subst hww
            by_cases hj0 : 0 < j
            · obtain ⟨i, rfl⟩ : ∃ i, j = i + 1 := ⟨j - 1, by omega⟩
              obtain ⟨z, hz⟩ := get_lt C i (by rw [HPL.out]; omega)
              have hcz := HCW.out i z hz
              have HPW := hidH (pwW_drop n C i z hz)
              have hji : ((i + 1 : Nat) : Int) - 1 = (i : Int) := by omega
              rw [hji]
              generalize hy : pwW n (C.drop (i + 1)) = y
              have HY := hidH hy
              clear hz hy
              go_wp2_with fail
              go_roundw
              case rel => exact ⟨i, by omega, rfl, by rw [HPW.out, HY.out], by first | rfl | trivial⟩
              case measure => simp [intOf]
            · obtain rfl : j = 0 := by omega
              have hpv := HPV.out n (by omega) (by omega)
              rw [List.drop_zero]
              generalize hy : pwW n C = y at hpv ⊢
              generalize hev : evA zs n = x at hpv
              have HEV := hidH hev
              have hne : (y != wrap64 (720 * x)) = false := by rw [hpv]; simp
              have hne2 : (y != IntKind.i64.wrap (720 * x)) = false := by rw [wrap_i]; exact hne
              clear hev hpv hy
              go_wp2_with fail
              refine (HE.out _ n HBq.out).mono ?_; rintro e w5 ⟨rfl, hb⟩
              have HB5 := hidH hb
              rw [HEV.out]
              clear hb
              go_wp2_with fail
              go_roundw
              case rel => exact ⟨n + 1, by omega, by omega, rfl, HB5.out⟩
              case measure => simp [intOf]; omega
        · obtain rfl : n = 8 := by omega
          go_wp2_with fail
          go_ret
          exact ⟨rfl, B3.out.trans (HBq.out.mono B3.out.size)⟩
end Go.Proofs.Ytgenniaklpheoaa
