/-
  The walk of a law: rounding the opposite number. No conditions but that the bytes that came in can be read.
-/
import Derived.Test.YtnndeiiolnefkaaRkB
namespace Go.Proofs.Ytnndeiiolnefkaa
set_option maxRecDepth 4000
open Go.RowKit
theorem deTen_int (d : Int) (h1 : -1 ≤ d) (h2 : d ≤ 7) (w : World) : Calls Try.prog 13 #[.int .i64 d] w fun e w' => e = .returned (.int .i64 (tenP d.toNat)) ∧ w = w' := by
  by_cases h : 0 ≤ d
  · obtain ⟨k, rfl⟩ := Int.eq_ofNat_of_zero_le h
    rw [Int.toNat_natCast]
    exact deTen_any k (by omega) w
  · obtain rfl : d = -1 := by omega
    go_enter Try.func13, Try.ntmps13
    go_wp2
    go_loop [3, 4] (fun p i => i = .int .i64 0 ∧ p = .int .i64 1) (fun _ _ => 0)
    case atStart => exact ⟨rfl, rfl⟩
    case round =>
      obtain ⟨rfl, rfl⟩ := hrel
      go_wp2
      go_ret
      exact ⟨rfl, rfl⟩
theorem tmod_zero (n u : Int) : n.tmod u = 0 ↔ n % u = 0 := by rw [← Int.dvd_iff_tmod_eq_zero, ← Int.dvd_iff_emod_eq_zero]
set_option maxHeartbeats 2000000 in
theorem lawRoundOpposite (a : Option Addr) (len cap : Nat) (w : World) (hc : Came w a len cap) : Calls Try.prog 5 #[.slice a len cap] w (Gives (.bool true) w) := by
  have hcap := hc.lenLe
  have hcap2 := hc.capLe
  unfold maxLen at hcap2
  by_cases hbig : 1048576 < len
  · clear hc
    go_enter Try.func5, Try.ntmps5
    go_wp2
    go_ret
    exact ⟨rfl, Below.refl _ _⟩
  · have HD := hidH (drawRoundEntry a len cap w hc (by omega))
    clear hc
    go_enter Try.func5, Try.ntmps5
    go_wp2_with fail
    refine HD.out.mono ?_
    rintro e w1 ⟨n, dg, way, rfl, dga, dgb, hb⟩
    have B1 := hidH hb
    have HI := hidH (fun W => roundEntry_any n dg way W)
    have HS := hidH (fun W => sRoundEntry_any n dg way W)
    clear hb HD
    cases hok : rndB n dg way
    · have hz : rndN n dg way = 0 := by unfold rndB at hok; unfold rndN; rw [hok]; rfl
      rw [hz, hok] at HI HS
      clear hz
      go_wp2_with fail
      refine (HI.out _).mono ?_; rintro e w2 ⟨rfl, hb⟩
      have B2 := hidH (bThen B1.out hb)
      clear hb
      go_wp2_with fail
      refine (HS.out _).mono ?_; rintro e w3 ⟨rfl, rfl⟩
      go_wp2_with fail
      go_ret
      exact ⟨rfl, B2.out⟩
    · have hr : rndN n dg way = rndI n (tenP dg.toNat) way := by unfold rndB at hok; unfold rndN; rw [hok]; rfl
      have hok2 := hok
      unfold rndB at hok2
      rw [Bool.and_eq_true] at hok2
      have ⟨n1, n2⟩ := of_decide_eq_true hok2.1
      obtain ⟨k, rfl, k6, y0, y2, hu⟩ := wayOk_parts hok2.2
      rw [Int.toNat_natCast] at hr
      rw [hr, hok] at HI HS
      have HT := hidH (fun W => deTen_any k (by omega) W)
      have HU := hidH hu
      have ⟨u1, u2⟩ := hu.bd
      have HWY := hidH hok2.2
      clear hok hok2 hr hu
      have hop := rnd_opp n (tenP k) way HU.out
      have ⟨p1, p2, p3, p4⟩ := rnd_prod n (tenP k) way HU.out n1 n2
      have ho : inB 1000000000 (-n) = true := decide_eq_true (by omega)
      have hnb : rndB (-n) k way = true := by unfold rndB; rw [ho, HWY.out]; rfl
      have hnn : rndN (-n) k way = rndI (-n) (tenP k) way := by unfold rndN; rw [ho, HWY.out, Bool.and_true, if_pos rfl, Int.toNat_natCast]
      have HN := hidH (fun W => roundEntry_any (-n) k way W)
      rw [hnb, hnn] at HN
      have hq := rnd_near n (tenP k) way
      have hdb := div_bd n (tenP k) (by omega) n1 n2
      clear HWY ho hnb hnn
      have htm := tmod_zero n (tenP k)
      have hmb1 := Int.lt_tmod_of_pos n (show 0 < tenP k by omega)
      have hmb2 := Int.tmod_lt_of_pos n (show 0 < tenP k by omega)
      generalize tenP k = u at *
      generalize hm : rndI n u way = m at *
      generalize hx : rndI (-n) u way = x at *
      have hmm : -1000000000 ≤ m ∧ m ≤ 1000000001 := by omega
      clear hdb hq hm hx p1 p2 p3 p4
      by_cases h0 : n.tmod u = 0
      · have g0 : (n.tmod u != 0) = false := bne_eq_false_iff_eq.2 h0
        have hxe : x = -m := by
          rcases (show way = 0 ∨ way ≠ 0 by omega) with h | h
          · have := hop.1 h; rw [if_neg (by rw [ne_eq, Classical.not_not]; exact htm.1 h0)] at this; omega
          · exact hop.2 h
        subst hxe
        clear hop htm h0
        rcases (show way = 0 ∨ way = 1 ∨ way = 2 by omega) with rfl | rfl | rfl
        · go_wp2_with fail
          refine (HI.out _).mono ?_; rintro e w2 ⟨rfl, hb⟩
          have B2 := hidH (bThen B1.out hb)
          clear hb
          go_wp2_with fail
          refine (HS.out _).mono ?_; rintro e w3 ⟨rfl, rfl⟩
          go_wp2_with fail
          refine (HN.out _).mono ?_; rintro e w4 ⟨rfl, hb⟩
          have B4 := hidH (bThen B2.out hb)
          clear hb
          go_wp2_with fail
          refine (HT.out _).mono ?_; rintro e w5 ⟨rfl, rfl⟩
          go_wp2_with fail
          go_ret
          exact ⟨by first | rfl | simp_all, B4.out⟩
        · go_wp2_with fail
          refine (HI.out _).mono ?_; rintro e w2 ⟨rfl, hb⟩
          have B2 := hidH (bThen B1.out hb)
          clear hb
          go_wp2_with fail
          refine (HS.out _).mono ?_; rintro e w3 ⟨rfl, rfl⟩
          go_wp2_with fail
          refine (HN.out _).mono ?_; rintro e w4 ⟨rfl, hb⟩
          have B4 := hidH (bThen B2.out hb)
          clear hb
          go_wp2_with fail
          refine (HT.out _).mono ?_; rintro e w5 ⟨rfl, rfl⟩
          go_wp2_with fail
          go_ret
          exact ⟨by first | rfl | simp_all, B4.out⟩
        · go_wp2_with fail
          refine (HI.out _).mono ?_; rintro e w2 ⟨rfl, hb⟩
          have B2 := hidH (bThen B1.out hb)
          clear hb
          go_wp2_with fail
          refine (HS.out _).mono ?_; rintro e w3 ⟨rfl, rfl⟩
          go_wp2_with fail
          refine (HN.out _).mono ?_; rintro e w4 ⟨rfl, hb⟩
          have B4 := hidH (bThen B2.out hb)
          clear hb
          go_wp2_with fail
          refine (HT.out _).mono ?_; rintro e w5 ⟨rfl, rfl⟩
          go_wp2_with fail
          go_ret
          exact ⟨by first | rfl | simp_all, B4.out⟩
      · have g0 : (n.tmod u != 0) = true := bne_iff_ne.2 h0
        have h1 : n % u ≠ 0 := fun e => h0 (htm.2 e)
        rcases (show way = 0 ∨ way = 1 ∨ way = 2 by omega) with rfl | rfl | rfl
        · have hxe : x = -m - 1 := by have := hop.1 rfl; rw [if_pos h1] at this; exact this
          subst hxe
          clear hop htm h0 h1
          go_wp2_with fail
          refine (HI.out _).mono ?_; rintro e w2 ⟨rfl, hb⟩
          have B2 := hidH (bThen B1.out hb)
          clear hb
          go_wp2_with fail
          refine (HS.out _).mono ?_; rintro e w3 ⟨rfl, rfl⟩
          go_wp2_with fail
          refine (HN.out _).mono ?_; rintro e w4 ⟨rfl, hb⟩
          have B4 := hidH (bThen B2.out hb)
          clear hb
          go_wp2_with fail
          refine (HT.out _).mono ?_; rintro e w5 ⟨rfl, rfl⟩
          go_wp2_with fail
          go_ret
          exact ⟨by first | rfl | simp_all, B4.out⟩
        · have hxe : x = -m := hop.2 (by omega)
          subst hxe
          clear hop htm h0 h1
          go_wp2_with fail
          refine (HI.out _).mono ?_; rintro e w2 ⟨rfl, hb⟩
          have B2 := hidH (bThen B1.out hb)
          clear hb
          go_wp2_with fail
          refine (HS.out _).mono ?_; rintro e w3 ⟨rfl, rfl⟩
          go_wp2_with fail
          refine (HN.out _).mono ?_; rintro e w4 ⟨rfl, hb⟩
          have B4 := hidH (bThen B2.out hb)
          clear hb
          go_wp2_with fail
          refine (HT.out _).mono ?_; rintro e w5 ⟨rfl, rfl⟩
          go_wp2_with fail
          go_ret
          exact ⟨by first | rfl | simp_all, B4.out⟩
        · have hxe : x = -m := hop.2 (by omega)
          subst hxe
          clear hop htm h0 h1
          go_wp2_with fail
          refine (HI.out _).mono ?_; rintro e w2 ⟨rfl, hb⟩
          have B2 := hidH (bThen B1.out hb)
          clear hb
          go_wp2_with fail
          refine (HS.out _).mono ?_; rintro e w3 ⟨rfl, rfl⟩
          go_wp2_with fail
          refine (HN.out _).mono ?_; rintro e w4 ⟨rfl, hb⟩
          have B4 := hidH (bThen B2.out hb)
          clear hb
          go_wp2_with fail
          refine (HT.out _).mono ?_; rintro e w5 ⟨rfl, rfl⟩
          go_wp2_with fail
          go_ret
          exact ⟨by first | rfl | simp_all, B4.out⟩
set_option maxHeartbeats 2000000 in
theorem lawRoundOrder (a : Option Addr) (len cap : Nat) (b : Option Addr) (len2 cap2 : Nat) (w : World) (hc : Came w a len cap) (hc2 : Came w b len2 cap2) : Calls Try.prog 4 #[.slice a len cap, .slice b len2 cap2] w (Gives (.bool true) w) := by
  have hcap := hc.lenLe
  have hcap2 := hc.capLe
  unfold maxLen at hcap2
  have hcap3 := hc2.lenLe
  have hcap4 := hc2.capLe
  unfold maxLen at hcap4
  by_cases hbig : 1048576 < len
  · clear hc hc2
    go_enter Try.func4, Try.ntmps4
    go_wp2
    go_ret
    exact ⟨rfl, Below.refl _ _⟩
  · by_cases hbig2 : 1048576 < len2
    · clear hc hc2
      go_enter Try.func4, Try.ntmps4
      go_wp2
      go_ret
      exact ⟨rfl, Below.refl _ _⟩
    · have HD := hidH (drawRoundEntry a len cap w hc (by omega))
      clear hc hc2
      go_enter Try.func4, Try.ntmps4
      go_wp2_with fail
      refine HD.out.mono ?_
      rintro e w1 ⟨n, dg, way, rfl, dga, dgb, hb⟩
      have B1 := hidH hb
      have HI := hidH (fun W => roundEntry_any n dg way W)
      have HS := hidH (fun W => sRoundEntry_any n dg way W)
      clear hb HD
      cases hok : rndB n dg way
      · have hz : rndN n dg way = 0 := by unfold rndB at hok; unfold rndN; rw [hok]; rfl
        rw [hz, hok] at HI HS
        have HX := hidH (fun y W => roundEntry_any y dg way W)
        have HT := hidH (fun W => deTen_int dg dga dgb W)
        have hs1 := tenP_pos dg.toNat
        generalize tenP dg.toNat = u at *
        clear hz hok
        go_wp2_with fail
        refine (HI.out _).mono ?_; rintro e w2 ⟨rfl, hb⟩
        have B2 := hidH (bThen B1.out hb)
        clear hb
        go_wp2_with fail
        refine (HS.out _).mono ?_; rintro e w3 ⟨rfl, rfl⟩
        go_wp2_with fail
        refine (HX.out _ _).mono ?_; rintro e w4 ⟨rfl, hb⟩
        have B4 := hidH (bThen B2.out hb)
        clear hb
        go_wp2_with fail
        refine (HT.out _).mono ?_; rintro e w5 ⟨rfl, rfl⟩
        go_wp2_with fail
        refine (HX.out _ _).mono ?_; rintro e w6 ⟨rfl, hb⟩
        have B6 := hidH (bThen B4.out hb)
        clear hb
        go_wp2_with fail
        go_ret
        exact ⟨rfl, B6.out⟩
      · have hr : rndN n dg way = rndI n (tenP dg.toNat) way := by unfold rndB at hok; unfold rndN; rw [hok]; rfl
        have hok2 := hok
        unfold rndB at hok2
        rw [Bool.and_eq_true] at hok2
        have ⟨n1, n2⟩ := of_decide_eq_true hok2.1
        obtain ⟨k, rfl, k6, y0, y2, hu⟩ := wayOk_parts hok2.2
        rw [Int.toNat_natCast] at hr
        rw [hr, hok] at HI HS
        have HT := hidH (fun W => deTen_any k (by omega) W)
        have HU := hidH hu
        have ⟨u1, u2⟩ := hu.bd
        have HWY := hidH hok2.2
        clear dga dgb hok hok2 hr hu
        obtain ⟨r0, hr0, r0a, r0b⟩ : ∃ r0 : Int, (len2 : Int) % 400 = r0 ∧ 0 ≤ r0 ∧ r0 < 400 := ⟨_, rfl, by omega, by omega⟩
        have hm1 := Int.lt_tmod_of_pos n (show 0 < tenP k by omega)
        have hm2 := Int.tmod_lt_of_pos n (show 0 < tenP k by omega)
        have hq0 : (n - n.tmod (tenP k)) % tenP k = 0 := by rw [Int.tmod_def]; rw [show n - (n - tenP k * n.tdiv (tenP k)) = tenP k * n.tdiv (tenP k) by omega]; exact Int.mul_emod_right _ _
        have hqb : -1000000000 ≤ n - n.tmod (tenP k) ∧ n - n.tmod (tenP k) ≤ 1000000000 := by
          have e := Int.mul_tdiv_add_tmod n (tenP k)
          rcases (show 0 ≤ n ∨ n < 0 by omega) with h | h
          · have := Int.tmod_nonneg (tenP k) h; omega
          · have h2 := Int.tmod_nonneg (tenP k) (show 0 ≤ -n by omega)
            rw [Int.neg_tmod] at h2; omega
        have hmo := rnd_mono n (n + r0) (tenP k) way HU.out (by omega)
        have hex := rnd_exact (n - n.tmod (tenP k)) (tenP k) way HU.out hq0
        have HQ := hidH (fun W => roundEntry_any (n - n.tmod (tenP k)) k way W)
        have hqB : rndB (n - n.tmod (tenP k)) k way = true := by unfold rndB; rw [HWY.out, show inB 1000000000 (n - n.tmod (tenP k)) = true from decide_eq_true hqb]; rfl
        have hqN : rndN (n - n.tmod (tenP k)) k way = rndI (n - n.tmod (tenP k)) (tenP k) way := by unfold rndB at hqB; unfold rndN; rw [hqB, if_pos rfl, Int.toNat_natCast]
        rw [hqB, hqN] at HQ
        have HK := hidH (fun W => roundEntry_any (n + r0) k way W)
        have hkN : rndB (n + r0) k way = true → rndN (n + r0) k way = rndI (n + r0) (tenP k) way := fun h => by unfold rndB at h; unfold rndN; rw [h, if_pos rfl, Int.toNat_natCast]
        have hw1 : wrap64 (rndI (n - n.tmod (tenP k)) (tenP k) way * tenP k) = n - n.tmod (tenP k) := by rw [hex]; exact IntWalk.wrap64_in _ (by omega)
        have hw2 : IntKind.i64.wrap (rndI (n - n.tmod (tenP k)) (tenP k) way * tenP k) = n - n.tmod (tenP k) := by rw [hex]; exact IntWalk.i64_in _ (by omega)
        clear HWY hqB hqN hex hq0
        generalize tenP k = u at *
        generalize rndI (n - n.tmod u) u way = ry at *
        generalize rndI n u way = m at *
        generalize rndI (n + r0) u way = xk at *
        have hwq : wrap64 (n - n.tmod u) = n - n.tmod u := IntWalk.wrap64_in _ (by omega)
        cases hf : rndB (n + r0) k way
        · rw [hf] at HK
          generalize rndN (n + r0) k way = x0 at *
          clear hf hkN hmo
          go_wp2_with fail
          refine (HI.out _).mono ?_; rintro e w2 ⟨rfl, hb⟩
          have B2 := hidH (bThen B1.out hb)
          clear hb
          go_wp2_with fail
          refine (HS.out _).mono ?_; rintro e w3 ⟨rfl, rfl⟩
          go_wp2_with fail
          refine (HK.out _).mono ?_; rintro e w4 ⟨rfl, hb⟩
          have B4 := hidH (bThen B2.out hb)
          clear hb
          go_wp2_with fail
          refine (HT.out _).mono ?_; rintro e w5 ⟨rfl, rfl⟩
          go_wp2_with fail
          refine (HQ.out _).mono ?_; rintro e w6 ⟨rfl, hb⟩
          have B6 := hidH (bThen B4.out hb)
          clear hb
          go_wp2_with fail
          go_ret
          exact ⟨by first | rfl | simp_all, B6.out⟩
        · rw [hf, hkN hf] at HK
          clear hf hkN
          go_wp2_with fail
          refine (HI.out _).mono ?_; rintro e w2 ⟨rfl, hb⟩
          have B2 := hidH (bThen B1.out hb)
          clear hb
          go_wp2_with fail
          refine (HS.out _).mono ?_; rintro e w3 ⟨rfl, rfl⟩
          go_wp2_with fail
          refine (HK.out _).mono ?_; rintro e w4 ⟨rfl, hb⟩
          have B4 := hidH (bThen B2.out hb)
          clear hb
          go_wp2_with fail
          refine (HT.out _).mono ?_; rintro e w5 ⟨rfl, rfl⟩
          go_wp2_with fail
          refine (HQ.out _).mono ?_; rintro e w6 ⟨rfl, hb⟩
          have B6 := hidH (bThen B4.out hb)
          clear hb
          go_wp2_with fail
          go_ret
          exact ⟨by first | rfl | simp_all, B6.out⟩
end Go.Proofs.Ytnndeiiolnefkaa
