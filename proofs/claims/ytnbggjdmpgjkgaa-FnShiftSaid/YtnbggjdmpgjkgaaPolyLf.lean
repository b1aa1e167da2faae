/-
  The walk of a law: a shifted polynomial has the values as many arguments later and the same highest difference, and shifting it back restores it. No conditions but that the bytes that came in can be read.
-/
import Derived.Test.YtnbggjdmpgjkgaaPolyLe
import Derived.Test.YtnbggjdmpgjkgaaPolyLc
import Derived.Test.YtnbggjdmpgjkgaaPolyNewton
namespace Go.Proofs.Ytnbggjdmpgjkgaa
open Go.RowKit
/-- The comparison of two slices that hold the same, which only reads. -/
theorem deInts_quiet (v u : Value) (zs : List Int) (w : World) (l1 h1 l2 h2 : Nat) (hv : Lies w l1 h1 v zs) (hu : Lies w l2 h2 u zs) : Calls Try.prog 22 #[v, u] w fun e w' => e = .returned (.bool true) ∧ ∃ q, w' = w.drewN q := by
  obtain ⟨a, cap, rfl, hlc, hcm, hnil, hcell⟩ := hv
  obtain ⟨a2, cap2, rfl, hlc2, hcm2, hnil2, hcell2⟩ := hu
  unfold maxLen at hcm hcm2
  have HC := hidH hcell
  have HC2 := hidH hcell2
  clear hcell hnil hcell2 hnil2
  go_enter Try.func22, Try.ntmps22
  go_wp2
  go_loopw [5] (fun i wr => ∃ k : Nat, k ≤ zs.length ∧ i = .int .i64 k ∧ ∃ q, wr = w.drewN q) (fun i _ => zs.length - (intOf i).toNat)
  case atStart => exact ⟨0, Nat.zero_le _, rfl, 0, rfl⟩
  case round =>
    obtain ⟨k, hk, rfl, hb⟩ := hrel
    have Hb := hidH hb
    clear hb
    by_cases hlt : k < zs.length
    · obtain ⟨z, hz⟩ := get_lt zs k hlt
      obtain ⟨b, off, rfl, _, _, hc⟩ := HC.out k z hz
      obtain ⟨b2, off2, rfl, _, _, hc2⟩ := HC2.out k z hz
      have hcw : wr.cell? ⟨b, off + k, none⟩ = some (.int .i64 z) := by obtain ⟨q, rfl⟩ := Hb.out; exact hc
      have hcw2 : wr.cell? ⟨b2, off2 + k, none⟩ = some (.int .i64 z) := by obtain ⟨q, rfl⟩ := Hb.out; exact hc2
      clear hz hc hc2
      go_wp2
      go_quiet (fail)
      go_wp2
      go_roundw
      case rel => exact ⟨k + 1, by omega, by go_num, by obtain ⟨q, rfl⟩ := Hb.out; exact ⟨q + nq, by rw [World.drewN_drewN]⟩⟩
      case measure => simp [intOf]; omega
    · obtain rfl : k = zs.length := by omega
      go_wp2
      go_ret
      exact ⟨rfl, Hb.out⟩
theorem newt_shift (L : Nat) (p : List Int) (n : Int) : newt L (fun m => evP p (m + n)) = shiftL p n L := by
  induction L generalizing p with
  | zero => rfl
  | succ L ih =>
    have e : Dl (fun m => evP p (m + n)) = fun m => evP p.tail (m + n) := funext fun m => by
      simp only [Dl]
      rw [show m + 1 + n = m + n + 1 by omega, evP_step]
      omega
    rw [newt, e, ih]
    unfold shiftL
    rw [List.range_succ_eq_map, List.map_cons, List.map_map]
    simp [Function.comp_def]
theorem ev_shift (p : List Int) (n m : Int) : evP (shiftL p n p.length) m = evP p (m + n) := by
  rw [← newt_shift]
  exact newt_eq p.length _ (top_shift (top_ev p) n) m
theorem shift_back (p : List Int) (n : Int) : shiftL (shiftL p n p.length) (-n) p.length = p := by
  have hl : (shiftL p n p.length).length = p.length := shiftL_length _ _ _
  refine ev_inj (by rw [shiftL_length]) fun m => ?_
  have h := ev_shift (shiftL p n p.length) (-n) m
  rw [hl] at h
  rw [h, ev_shift]
  congr 1
  omega
theorem shift_last (p : List Int) (n : Int) (m : Nat) (x : Int) (hm : p.length = m + 1) (hx : p[m]? = some x) : (shiftL p n p.length)[m]? = some x := by
  rw [shiftL_get _ _ _ _ (by omega)]
  have e : p.drop m = [x] := by
    obtain ⟨h1, h2⟩ := List.getElem?_eq_some_iff.1 hx
    rw [List.drop_eq_getElem_cons h1, h2, List.drop_eq_nil_of_le (by omega)]
  rw [e]
  simp [evP, ev, chN]
theorem shift_val (zs : List Int) (n m : Int) (hz : polyOk zs = true) (hs : polyOk (shiftL zs n zs.length) = true) (h1 : -200 ≤ m + n) (h2 : m + n ≤ 200) (h3 : -200 ≤ m) (h4 : m ≤ 200) : evA (shiftL zs n zs.length) m = evA zs (m + n) := by
  rw [evA_ok _ _ hs h3 h4, evA_ok _ _ hz h1 h2, ev_shift]
set_option maxHeartbeats 2000000 in
theorem lawShift (a : Option Addr) (len cap : Nat) (w : World) (hc : Came w a len cap) : Calls Try.prog 7 #[.slice a len cap] w (Gives (.bool true) w) := by
  have hcap := hc.lenLe
  have hcap2 := hc.capLe
  unfold maxLen at hcap2
  by_cases hbig : 1048576 < len
  · clear hc
    go_enter Try.func7, Try.ntmps7
    go_wp2
    go_ret
    exact ⟨rfl, Below.refl _ _⟩
  · have HD := hidH (drawShiftPoly a len cap w hc (by omega))
    clear hc
    go_enter Try.func7, Try.ntmps7
    go_wp2_with fail
    refine HD.out.mono ?_
    rintro e w1 ⟨v, zs, n, rfl, hrow, h8, hB⟩
    have RW := hidH hrow
    have B1 := hidH hB
    clear hrow hB HD
    go_wp2_with fail
    refine (shift_any v zs n w1 _ _ RW.out.lies).mono ?_; rintro e w2 ⟨q, rfl, hq, hb⟩
    have RW2 := hidH (RW.out.below hb)
    have RQ2 := hidH hq
    have B2 := hidH (B1.out.trans (hb.mono B1.out.size))
    clear hb hq RW
    go_wp2_with fail
    refine (sShift_any v zs n w2 _ _ RW2.out.lies).mono ?_; rintro e w3 ⟨u, rfl, hu, hb⟩
    have RW3 := hidH (RW2.out.below hb)
    have RQ3 := hidH (RQ2.out.below hb)
    have RU3 := hidH hu
    have B3 := hidH (B2.out.trans (hb.mono B2.out.size))
    clear hb hu RW2 RQ2
    rcases shift_ways zs n with ⟨he, hz, n1, n2, hsz, hsa⟩ | ⟨he, hsa⟩
    · rw [he]
      have HSA := hidH hsa
      rw [hsa] at RQ3 RU3
      have hlq : (shiftL zs n zs.length).length = zs.length := shiftL_length _ _ _
      have ⟨k1, hs⟩ := polyOk_small _ hz
      have k7 := hs.1
      obtain ⟨m, hm⟩ : ∃ m, zs.length = m + 1 := ⟨zs.length - 1, by omega⟩
      obtain ⟨x, hx⟩ := get_lt zs m (by omega)
      have hxq := shift_last zs n m x hm hx
      obtain ⟨b, cp, rfl, hlc, hcm, _, hbh, hblk⟩ := RQ3.out.blk (by omega)
      obtain ⟨b2, off2, cp2, rfl, hlc2, hcm2, _, _, hbw2, hcell2⟩ := RW3.out.lies.addr (by omega)
      have hcx := hcell2 m x hx
      have hcq := (hblk.2 m x hxq).1
      have hbwq := hblk.1
      have HCX := hidH hcx
      have HCQ := hidH hcq
      have HSV := hidH fun (j : Int) => shift_val zs n j hz hsz
      have HSB := hidH (show shiftA (shiftL zs n zs.length) (-n) = zs ∧ shiftB (shiftL zs n zs.length) (-n) = true by
        have hb := shift_back zs n
        have hn : inB 200 (-n) = true := decide_eq_true ⟨by omega, by omega⟩
        unfold shiftA shiftB
        rw [hsz, hn, shiftL_length, hb, hz]
        refine ⟨?_, rfl⟩
        show resL zs = zs
        rw [resL, hz]; rfl)
      have HE := hidH fun (W : World) (j : Int) (hb : Below w3.heap.size w3 W) => (evalPoly_any _ zs j W _ _ (RW3.out.below hb).lies).mono fun e w' (h : Gives _ W e w') => (⟨h.1, hb.trans (h.2.mono hb.size)⟩ : e = .returned (.tuple #[.int .i64 (evA zs j), .bool (evB zs j)]) ∧ Below w3.heap.size w3 w')
      have HQ := hidH fun (W : World) (j : Int) (hb : Below w3.heap.size w3 W) => (at_any _ (shiftL zs n zs.length) j W _ _ (RQ3.out.below hb).lies).mono fun e w' (h : Gives _ W e w') => (⟨h.1, hb.trans (h.2.mono hb.size)⟩ : e = .returned (.int .i64 (evA (shiftL zs n zs.length) j)) ∧ Below w3.heap.size w3 w')
      have HLQ := hidH hlq
      have HM := hidH hm
      rw [hlq] at hlc ⊢
      rw [hlq] at RQ3 HQ
      unfold maxLen at hcm hcm2
      clear he hsa hblk hsz hz hs hcell2 hx hxq hcx hcq hm hlq
      generalize hSL : shiftL zs n zs.length = SL at *
      have HSL := hidH hSL
      clear hSL
      go_wp2_with fail
      refine (deInts_yes _ u SL w3 _ _ _ _ RQ3.out.lies RU3.out.lies).mono ?_; rintro e w4 ⟨rfl, hb⟩
      have HB4 := hidH hb
      clear hb
      go_wp2_with fail
      go_loopw [9] (fun i wr => ∃ k : Nat, k ≤ 16 ∧ i = .int .i64 ((k : Int) - 5) ∧ Below w3.heap.size w3 wr) (fun i _ => (11 - intOf i).toNat)
      case atStart => exact ⟨0, by omega, rfl, HB4.out⟩
      case round =>
        obtain ⟨k, hk, rfl, hb⟩ := hrel
        have HBq := hidH hb
        clear hb
        by_cases hlt : k < 16
        · go_wp2_with fail
          refine (HE.out wr ((k : Int) - 5 + n) HBq.out).mono ?_; rintro e w5 ⟨rfl, hb⟩
          have HB5 := hidH hb
          clear hb
          rcases evB_ways zs ((k : Int) - 5 + n) with ⟨he, hz, q1, q2⟩ | he
          · rw [he]
            have HV := hidH (HSV.out ((k : Int) - 5) q1 q2 (by omega) (by omega))
            clear he hz
            go_wp2_with fail
            refine (HQ.out w5 ((k : Int) - 5) HB5.out).mono ?_; rintro e w6 ⟨rfl, hb⟩
            have HB6 := hidH hb
            rw [HV.out]
            clear hb
            generalize evA zs ((k : Int) - 5 + n) = y at *
            go_wp2_with fail
            go_roundw
            case rel => exact ⟨k + 1, by omega, by rw [show ((k + 1 : Nat) : Int) - 5 = (k : Int) - 5 + 1 by omega], HB6.out⟩
            case measure => simp [intOf]; omega
          · rw [he]
            clear he
            generalize evA zs ((k : Int) - 5 + n) = y at *
            go_wp2_with fail
            go_roundw
            case rel => exact ⟨k + 1, by omega, by rw [show ((k + 1 : Nat) : Int) - 5 = (k : Int) - 5 + 1 by omega], HB5.out⟩
            case measure => simp [intOf]; omega
        · obtain rfl : k = 16 := by omega
          go_wp2_with fail
          refine (shift_any _ SL (-n) wr _ _ (RQ3.out.below HBq.out).lies).mono ?_; rintro e w5 ⟨bk, rfl, hr, hb⟩
          rw [HSB.out.1] at hr
          rw [HSB.out.2]
          have RB := hidH hr
          have HB5 := hidH (HBq.out.trans (hb.mono HBq.out.size))
          have hcx5 : w5.cell? ⟨b2, off2 + m, none⟩ = some (.int .i64 x) := by rw [HB5.out.cell (p := ⟨b2, off2 + m, none⟩) hbw2]; exact HCX.out
          have hcq5 : w5.cell? ⟨b, m, none⟩ = some (.int .i64 x) := by rw [HB5.out.cell (p := ⟨b, m, none⟩) hbwq]; exact HCQ.out
          have hmi : (zs.length : Int) - 1 = (m : Int) := by have := HM.out; omega
          have v1 : IntKind.i64.wrap ((zs.length : Int) - 1) = (m : Int) := by rw [hmi]; exact IntWalk.i64_in _ (by omega)
          have hml : m < zs.length := by have := HM.out; omega
          have hml2 : (m : Int) < (zs.length : Int) := by omega
          have hm0 : (0 : Int) ≤ (m : Int) := Int.natCast_nonneg _
          clear hr hb
          go_wp2_with fail
          go_quiet ((go_at_call 22; exact Calls.quiet_of (deInts_quiet bk _ zs _ _ _ _ _ (RB.out.below (below_drewN (Below.refl _ _) _)).lies ((RW3.out.below HB5.out).below (below_drewN (Below.refl _ _) _)).lies)))
          go_wp2_with fail
          go_ret
          exact ⟨rfl, below_drewN (B3.out.trans (HB5.out.mono B3.out.size)) _⟩
    · rw [he]
      clear he
      generalize shiftA zs n = L at *
      go_wp2_with fail
      refine (deInts_yes q u L w3 _ _ _ _ RQ3.out.lies RU3.out.lies).mono ?_; rintro e w4 ⟨rfl, hb⟩
      have HB4 := hidH hb
      clear hb
      go_wp2_with fail
      refine (deInts_yes q u L w4 _ _ _ _ (RQ3.out.below HB4.out).lies (RU3.out.below HB4.out).lies).mono ?_; rintro e w5 ⟨rfl, hb⟩
      have HB5 := hidH (HB4.out.trans (hb.mono HB4.out.size))
      clear hb
      go_wp2_with fail
      go_ret
      exact ⟨rfl, B3.out.trans (HB5.out.mono B3.out.size)⟩
end Go.Proofs.Ytnbggjdmpgjkgaa
