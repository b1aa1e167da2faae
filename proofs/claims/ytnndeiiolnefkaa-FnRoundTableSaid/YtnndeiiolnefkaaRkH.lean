/-
  The walk of a law: the error of a rounded table is that of its entries. No conditions but that the bytes that came in can be read.
-/
import Derived.Test.YtnndeiiolnefkaaRkG
import Derived.Test.YtnndeiiolnefkaaRkB
import Derived.Test.YtnndeiiolnefkaaKitW
import Derived.Test.YtnndeiiolnefkaaDeFns
namespace Go.Proofs.Ytnndeiiolnefkaa
set_option maxRecDepth 4000
open Go.RowKit
/-- A drawn table, sometimes none, with digits and a way of rounding. -/
def DrawTG (w : World) (e : Ending) (w' : World) : Prop := ∃ (v : Value) (zs : List Int) (d y : Int), e = .returned (.tuple #[v, .int .i64 d, .int .i64 y]) ∧ Row w' w.heap.size w'.heap.size v zs ∧ zs.length ≤ 61 ∧ -1 ≤ d ∧ d ≤ 7 ∧ Below w.heap.size w w'
theorem drawRoundTable (a : Option Addr) (len cap : Nat) (w : World) (hc : Came w a len cap) (hl : len ≤ 1048576) : Calls Try.prog 14 #[.slice a len cap] w (DrawTG w) := by
  have HO := hidH (opened_any a len cap w hc hl)
  clear hc
  go_enter Try.func14, Try.ntmps14
  go_wp2_with fail
  refine HO.out.mono ?_
  rintro e w1 ⟨rfl, hR, hB⟩
  have R1 := hidH hR
  have B1 := hidH hB
  have s1 := hB.size
  have hr1 := hR.lt
  clear hR hB HO
  go_wp2_with fail
  refine (guard6_any w.heap.size _ w1 R1.out (by omega)).mono ?_
  rintro e w2 ⟨d, y, rfl, d1, d2, hR, hO⟩
  have R2 := hidH hR
  have O2 := hidH hO
  have s2 := hO.size
  clear hR hO R1
  go_wp2_with fail
  refine (entries6_any w.heap.size _ w2 R2.out (by omega)).mono ?_
  rintro e w3 ⟨v, zs, rfl, hown, h1, h20, hR, hO⟩
  have RW := hidH (row_of_owns hown).1
  have R3 := hidH hR
  have O3 := hidH (O2.out.trans hO)
  have s3 := hO.size
  obtain ⟨va, vn, vc, hvf⟩ : ∃ a2 n2 c2, v = .slice a2 n2 c2 := by
    obtain ⟨a2, c2, e, _⟩ := RW.out.lies
    exact ⟨a2, _, c2, e⟩
  subst hvf
  clear hown hR hO R2 O2
  go_wp2_with fail
  refine (badTab_any w.heap.size _ w2.heap.size _ zs w3 R3.out (by omega) RW.out h1 (by omega) (by omega) s3).mono ?_
  rintro e w4 ⟨u, ys, rfl, hrow, h61, hR, hO⟩
  have RW4 := hidH hrow
  have O4 := hidH hO
  clear hrow hR hO RW R3
  obtain ⟨ua, un, uc, huf⟩ : ∃ a2 n2 c2, u = .slice a2 n2 c2 := by
    obtain ⟨a2, c2, e, _⟩ := RW4.out.lies
    exact ⟨a2, _, c2, e⟩
  subst huf
  go_wp2_with fail
  go_ret3
  refine ⟨_, ys, d, y, rfl, RW4.out.mono (by omega) (Nat.le_refl _), h61, d1, d2, ?_⟩
  have h13 := O3.out.below (Nat.le_refl _) s1
  have h34 : Below w.heap.size w3 w4 := ⟨O4.out.os, O4.out.tape, O4.out.output, O4.out.size, fun k hk => O4.out.block k (by omega) (by omega)⟩
  exact B1.out.trans (h13.trans h34)
/-- Whether one of the first k errors is the greatest one, or this is 0. -/
def someB (N u way : Int) (zs : List Int) : Nat → Bool
  | 0 => N == 0
  | k + 1 => someB N u way zs k || (-(rDif u way (zs.getD k 0)) == N || -(rDif u way (zs.getD k 0)) == -N)
theorem someB_of (N u way : Int) (zs : List Int) (hu : IsUnit u) (k : Nat) (h : eMax u way zs k = N) : someB N u way zs k = true := by
  induction k with
  | zero => unfold someB; unfold eMax at h; rw [← h]; rfl
  | succ k ih =>
    have hb := eMax_bd u way zs hu k
    unfold eMax at h
    unfold someB
    generalize rDif u way (zs.getD k 0) = d at *
    by_cases h2 : eMax u way zs k = N
    · rw [ih h2]; rfl
    · have h3 : -d = N ∨ -d = -N := by omega
      rcases h3 with h3 | h3
      · rw [beq_iff_eq.2 h3]; simp
      · rw [beq_iff_eq.2 h3]; simp
theorem eMax_le (u way : Int) (zs : List Int) (k j : Nat) (h : k ≤ j) : eMax u way zs k ≤ eMax u way zs j := by
  induction j with
  | zero => obtain rfl : k = 0 := by omega
            exact Int.le_refl _
  | succ j ih =>
    by_cases e : k = j + 1
    · subst e; exact Int.le_refl _
    · have := ih (by omega)
      rw [eMax]; omega
theorem rDif_le (u way : Int) (zs : List Int) (k j : Nat) (z : Int) (hz : zs[k]? = some z) (h : k < j) : rDif u way z ≤ eMax u way zs j ∧ -rDif u way z ≤ eMax u way zs j := by
  have h1 := eMax_le u way zs (k + 1) j (by omega)
  have h2 := eMax_step u way zs k z hz
  unfold rDif
  omega
set_option maxHeartbeats 4000000 in
theorem lawRoundTable (a : Option Addr) (len cap : Nat) (w : World) (hc : Came w a len cap) : Calls Try.prog 6 #[.slice a len cap] w (Gives (.bool true) w) := by
  have hcap := hc.lenLe
  have hcap2 := hc.capLe
  unfold maxLen at hcap2
  by_cases hbig : 1048576 < len
  · clear hc
    go_enter Try.func6, Try.ntmps6
    go_wp2
    go_ret
    exact ⟨rfl, Below.refl _ _⟩
  · have HD := hidH (drawRoundTable a len cap w hc (by omega))
    clear hc
    go_enter Try.func6, Try.ntmps6
    go_wp2_with fail
    refine HD.out.mono ?_
    rintro e w1 ⟨v, zs, dg, way, rfl, hv, h61, dga, dgb, hB⟩
    have V_1 := hidH hv.lies
    have B1 := hidH hB
    have C1 := hidH (Below.refl w1.heap.size w1)
    obtain ⟨av, cv, rfl, hlv, hcv, _, hcellv⟩ := hv.lies
    have HCV := hidH hcellv
    unfold maxLen at hcv
    clear hB HD hv hcellv
    go_wp2_with fail
    refine (roundTable_any (.slice av zs.length cv) zs dg way w1 _ _ V_1.out).mono ?_; rintro e w2 ⟨l, rfl, hr, hb⟩
    have B2 := hidH (B1.out.trans (hb.mono B1.out.size))
    have C2 := hidH (C1.out.trans (hb.mono C1.out.size))
    have V_2 := hidH (V_1.out.below hb)
    have L_2 := hidH hr
    clear hb hr B1 C1 V_1
    go_wp2_with fail
    refine (sRtab_any (.slice av zs.length cv) zs dg way w2 _ _ V_2.out).mono ?_; rintro e w3 ⟨s, rfl, hr, hb⟩
    have B3 := hidH (B2.out.trans (hb.mono B2.out.size))
    have C3 := hidH (C2.out.trans (hb.mono C2.out.size))
    have V_3 := hidH (V_2.out.below hb)
    have L_3 := hidH (L_2.out.below hb)
    have S_3 := hidH hr
    clear hb hr B2 C2 V_2 L_2
    go_wp2_with fail
    refine (roundError_any (.slice av zs.length cv) zs dg way w3 _ _ V_3.out).mono ?_; rintro e w4 ⟨rfl, hb⟩
    have B4 := hidH (B3.out.trans (hb.mono B3.out.size))
    have C4 := hidH (C3.out.trans (hb.mono C3.out.size))
    have V_4 := hidH (V_3.out.below hb)
    have L_4 := hidH (L_3.out.below hb)
    have S_4 := hidH (S_3.out.below hb)
    clear hb B3 C3 V_3 L_3 S_3
    go_wp2_with fail
    refine (deInts_yes l s (rtabA zs dg way) _ _ _ _ _ L_4.out.lies S_4.out.lies).mono ?_; rintro e w5 ⟨rfl, hb⟩
    have B5 := hidH (B4.out.trans (hb.mono B4.out.size))
    have C5 := hidH (C4.out.trans (hb.mono C4.out.size))
    have V_5 := hidH (V_4.out.below hb)
    have L_5 := hidH (L_4.out.below hb)
    have S_5 := hidH (S_4.out.below hb)
    clear hb B4 C4 V_4 L_4 S_4
    go_wp2_with fail
    refine (sRerr_any (.slice av zs.length cv) zs dg way w5 _ _ V_5.out).mono ?_; rintro e w6 ⟨rfl, hb⟩
    have B6 := hidH (B5.out.trans (hb.mono B5.out.size))
    have C6 := hidH (C5.out.trans (hb.mono C5.out.size))
    have V_6 := hidH (V_5.out.below hb)
    have L_6 := hidH (L_5.out.below hb)
    have S_6 := hidH (S_5.out.below hb)
    clear hb B5 C5 V_5 L_5 S_5
    cases hok : rtabB zs dg way
    · have HOK := hidH hok
      clear hok
      go_wp2_with fail
      refine (deInts_yes l s (rtabA zs dg way) _ _ _ _ _ L_6.out.lies S_6.out.lies).mono ?_; rintro e w7 ⟨rfl, hb⟩
      have B7 := hidH (B6.out.trans (hb.mono B6.out.size))
      have C7 := hidH (C6.out.trans (hb.mono C6.out.size))
      have V_7 := hidH (V_6.out.below hb)
      have L_7 := hidH (L_6.out.below hb)
      have S_7 := hidH (S_6.out.below hb)
      clear hb B6 C6 V_6 L_6 S_6
      go_wp2_with fail
      refine (sRerr_any (.slice av zs.length cv) zs dg way w7 _ _ V_7.out).mono ?_; rintro e w8 ⟨rfl, hb⟩
      have B8 := hidH (B7.out.trans (hb.mono B7.out.size))
      have C8 := hidH (C7.out.trans (hb.mono C7.out.size))
      have V_8 := hidH (V_7.out.below hb)
      have L_8 := hidH (L_7.out.below hb)
      have S_8 := hidH (S_7.out.below hb)
      clear hb B7 C7 V_7 L_7 S_7
      generalize rerrA zs dg way = n at *
      go_wp2_with fail
      go_ret
      exact ⟨by first | rfl | simp_all, B8.out⟩
    · have hok2 := hok
      unfold rtabB at hok2
      rw [Bool.and_eq_true] at hok2
      obtain ⟨k0, rfl, k6, y0, y2, hu⟩ := wayOk_parts hok2.2
      have HT := hidH (fun W => deTen_any k0 (by omega) W)
      have HWY := hidH hok2.2
      have HTB := hidH hok2.1
      have HU := hidH hu
      have ⟨u1, u2⟩ := hu.bd
      have ⟨ht1, ht2⟩ := tableOk_len _ hok2.1
      have hrl : rtabA zs (k0 : Int) way = rndL (tenP k0) way zs := by unfold rtabA; rw [hok, if_pos rfl, Int.toNat_natCast]
      have hre : rerrA zs (k0 : Int) way = eMax (tenP k0) way zs zs.length := by unfold rerrA; rw [hok, if_pos rfl, Int.toNat_natCast]
      rw [hrl] at L_6
      rw [hre]
      have HEN := hidH (fun z z1 z2 W => show Calls Try.prog 11 #[.int .i64 z, .int .i64 k0, .int .i64 way] W (Gives (.tuple #[.int .i64 (rndI z (tenP k0) way), .bool true]) W) from by
        have h := roundEntry_any z k0 way W
        have hb : rndB z k0 way = true := by unfold rndB; rw [HWY.out, show inB 1000000000 z = true from decide_eq_true ⟨z1, z2⟩]; rfl
        have hn : rndN z k0 way = rndI z (tenP k0) way := by unfold rndB at hb; unfold rndN; rw [hb, if_pos rfl, Int.toNat_natCast]
        rw [hb, hn] at h
        exact h)
      have ⟨n1, n2, n3⟩ := eMax_bd (tenP k0) way zs hu zs.length
      have HSM := hidH (someB_of (eMax (tenP k0) way zs zs.length) (tenP k0) way zs hu zs.length rfl)
      have HLL := hidH (rndL_length (tenP k0) way zs)
      have HGT := hidH (fun k z h => rndL_get (tenP k0) way zs k z h)
      have HDL := hidH (fun k z hz hk => rDif_le (tenP k0) way zs k zs.length z hz hk)
      have HPR := hidH (fun z z1 z2 => rnd_prod z (tenP k0) way hu z1 z2)
      have HST := hidH (fun N k z (hz : zs[k]? = some z) => show someB N (tenP k0) way zs (k + 1) = (someB N (tenP k0) way zs k || (-(rDif (tenP k0) way z) == N || -(rDif (tenP k0) way z) == -N)) from by rw [someB, getD_of hz])
      clear hok hok2 hu hrl hre dga dgb
      generalize tenP k0 = u at *
      obtain ⟨N, hN⟩ : ∃ N, N = eMax u way zs zs.length := ⟨_, rfl⟩
      rw [← hN] at n1 n2 n3 HSM HDL
      rw [← hN]
      have HST := hidH (HST.out N)
      clear hN
      obtain ⟨bl, ol, cl, rfl, hll, hcl, _, _, hbl, hcelll⟩ := L_6.out.lies.addr (by rw [HLL.out]; omega)
      have HCL := hidH hcelll
      have hlen : (rndL u way zs).length = zs.length := HLL.out
      unfold maxLen at hcl
      rw [hlen] at hll ⊢
      clear hcelll hlen
      go_wp2_with fail
      refine (HT.out _).mono ?_; rintro e wz ⟨rfl, rfl⟩
      go_wp2_with fail
      clear HWY HT S_6
      have hsz6 : w1.heap.size ≤ w6.heap.size := C6.out.size
      go_loopw [12, 13] (fun b i wr => ∃ (k : Nat) (bb : Bool), k ≤ zs.length ∧ i = .int .i64 k ∧ b = .bool bb ∧ bb = someB N u way zs k ∧ Below w6.heap.size w6 wr) (fun _ i _ => zs.length - (intOf i).toNat)
      case atStart => exact ⟨0, _, Nat.zero_le _, rfl, rfl, rfl, Below.refl _ _⟩
      case round =>
        obtain ⟨k, bb, hk, rfl, rfl, hbb, hb⟩ := hrel
        have HBB := hidH hbb
        have HBq := hidH hb
        clear hbb hb
        by_cases hlt : k < zs.length
        · obtain ⟨z, hz⟩ := get_lt zs k hlt
          have ⟨z1, z2⟩ := tab_bd HTB.out hz
          obtain ⟨bv, ov, rfl, _, _, hcz⟩ := HCV.out k z hz
          have hbv := cell_blk _ _ _ hcz
          have hc6 : w6.cell? ⟨bv, ov + k, none⟩ = some (.int .i64 z) := by rw [C6.out.cell (p := ⟨bv, ov + k, none⟩) hbv]; exact hcz
          have hl6 := HCL.out k _ (HGT.out k z hz)
          have hcw : wr.cell? ⟨bv, ov + k, none⟩ = some (.int .i64 z) := by rw [HBq.out.cell (p := ⟨bv, ov + k, none⟩) (cell_blk _ _ _ hc6)]; exact hc6
          have HC6 := hidH hc6
          have HL6 := hidH hl6
          have hS := HST.out k z hz
          have ⟨d1, d2⟩ := HDL.out k z hz hlt
          have ⟨p1, p2, p3, p4⟩ := HPR.out z z1 z2
          have HE := hidH (HEN.out z z1 z2 wr)
          unfold rDif at hS d1 d2
          rw [show -(z - rndI z u way * u) = rndI z u way * u - z by omega] at hS d2
          rw [← HBB.out] at hS
          have HS := hidH hS
          clear hS hz hcz hc6 hl6 hbv
          generalize rndI z u way = m at *
          have hw1 : wrap64 (m * u) = m * u := IntWalk.wrap64_in _ (by omega)
          have hw2 : IntKind.i64.wrap (m * u) = m * u := IntWalk.i64_in _ (by omega)
          obtain ⟨D, hD⟩ : ∃ D, m * u = D + z := ⟨m * u - z, by omega⟩
          rw [show m * u - z = D by omega] at HS d2
          rw [show z - m * u = -D by omega] at d1
          have dd1 : -D ≤ N := d1
          have hD2 : wrap64 (D + z) = D + z := IntWalk.wrap64_in _ (by omega)
          have hD3 : D + z - z = D := by omega
          rw [hD] at hw1 hw2
          cases bb
          · by_cases e1 : D = N
            · have b1 : (D == N) = true := beq_iff_eq.2 e1
              rw [b1] at HS
              clear e1
              go_wp2_with fail
              refine HE.out.mono ?_; rintro e w9 ⟨rfl, hb⟩
              have HB9 := hidH (HBq.out.trans (hb.mono HBq.out.size))
              have hcx : w9.cell? ⟨bv, ov + k, none⟩ = some (.int .i64 z) := by rw [HB9.out.cell (p := ⟨bv, ov + k, none⟩) (cell_blk _ _ _ HC6.out)]; exact HC6.out
              have hcy : w9.cell? ⟨bl, ol + k, none⟩ = some (.int .i64 m) := by rw [HB9.out.cell (p := ⟨bl, ol + k, none⟩) (cell_blk _ _ _ HL6.out)]; exact HL6.out
              clear hb hcw
              go_wp2_with fail
              go_roundw
              case rel => exact ⟨k + 1, _, by omega, by go_num, rfl, by rw [HS.out] <;> rfl, HB9.out⟩
              case measure => simp [intOf]; omega
            · have b1 : (D == N) = false := beq_eq_false_iff_ne.2 e1
              by_cases e2 : D = -N
              · have b2 : (D == -N) = true := beq_iff_eq.2 e2
                rw [b1, b2] at HS
                clear e1 e2
                go_wp2_with fail
                refine HE.out.mono ?_; rintro e w9 ⟨rfl, hb⟩
                have HB9 := hidH (HBq.out.trans (hb.mono HBq.out.size))
                have hcx : w9.cell? ⟨bv, ov + k, none⟩ = some (.int .i64 z) := by rw [HB9.out.cell (p := ⟨bv, ov + k, none⟩) (cell_blk _ _ _ HC6.out)]; exact HC6.out
                have hcy : w9.cell? ⟨bl, ol + k, none⟩ = some (.int .i64 m) := by rw [HB9.out.cell (p := ⟨bl, ol + k, none⟩) (cell_blk _ _ _ HL6.out)]; exact HL6.out
                clear hb hcw
                go_wp2_with fail
                go_roundw
                case rel => exact ⟨k + 1, _, by omega, by go_num, rfl, by rw [HS.out] <;> rfl, HB9.out⟩
                case measure => simp [intOf]; omega
              · have b2 : (D == -N) = false := beq_eq_false_iff_ne.2 e2
                rw [b1, b2] at HS
                clear e1 e2
                go_wp2_with fail
                refine HE.out.mono ?_; rintro e w9 ⟨rfl, hb⟩
                have HB9 := hidH (HBq.out.trans (hb.mono HBq.out.size))
                have hcx : w9.cell? ⟨bv, ov + k, none⟩ = some (.int .i64 z) := by rw [HB9.out.cell (p := ⟨bv, ov + k, none⟩) (cell_blk _ _ _ HC6.out)]; exact HC6.out
                have hcy : w9.cell? ⟨bl, ol + k, none⟩ = some (.int .i64 m) := by rw [HB9.out.cell (p := ⟨bl, ol + k, none⟩) (cell_blk _ _ _ HL6.out)]; exact HL6.out
                clear hb hcw
                go_wp2_with fail
                go_roundw
                case rel => exact ⟨k + 1, _, by omega, by go_num, rfl, by rw [HS.out] <;> rfl, HB9.out⟩
                case measure => simp [intOf]; omega
          · rw [Bool.true_or] at HS
            go_wp2_with fail
            refine HE.out.mono ?_; rintro e w9 ⟨rfl, hb⟩
            have HB9 := hidH (HBq.out.trans (hb.mono HBq.out.size))
            have hcx : w9.cell? ⟨bv, ov + k, none⟩ = some (.int .i64 z) := by rw [HB9.out.cell (p := ⟨bv, ov + k, none⟩) (cell_blk _ _ _ HC6.out)]; exact HC6.out
            have hcy : w9.cell? ⟨bl, ol + k, none⟩ = some (.int .i64 m) := by rw [HB9.out.cell (p := ⟨bl, ol + k, none⟩) (cell_blk _ _ _ HL6.out)]; exact HL6.out
            clear hb hcw
            go_wp2_with fail
            go_roundw
            case rel => exact ⟨k + 1, _, by omega, by go_num, rfl, by rw [HS.out] <;> rfl, HB9.out⟩
            case measure => simp [intOf]; omega
        · obtain rfl : k = zs.length := by omega
          have hbt : bb = true := by rw [HBB.out]; exact HSM.out
          subst hbt
          rcases (show way = 0 ∨ way ≠ 0 by omega) with rfl | hw
          · clear n3
            go_wp2_with fail
            go_ret
            exact ⟨by first | rfl | simp_all, B6.out.trans (HBq.out.mono B6.out.size)⟩
          · have n4 := n3 hw
            have hwb : (way == 0) = false := beq_eq_false_iff_ne.2 hw
            clear n3
            go_wp2_with fail
            go_ret
            exact ⟨by first | rfl | simp_all, B6.out.trans (HBq.out.mono B6.out.size)⟩
end Go.Proofs.Ytnndeiiolnefkaa
