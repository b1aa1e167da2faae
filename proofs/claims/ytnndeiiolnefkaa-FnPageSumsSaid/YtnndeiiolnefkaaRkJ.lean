/-
  The walk of a law: the sums of columns are those of their places. No conditions but that the bytes that came in can be read.
-/
import Derived.Test.YtnndeiiolnefkaaRkI
import Derived.Test.YtnndeiiolnefkaaRkF
import Derived.Test.YtnndeiiolnefkaaPsmC
import Derived.Test.YtnndeiiolnefkaaDeFns
namespace Go.Proofs.Ytnndeiiolnefkaa
set_option maxRecDepth 4000
open Go.RowKit
theorem drawPageSums (a : Option Addr) (len cap : Nat) (w : World) (hc : Came w a len cap) (hl : len ≤ 1048576) : Calls Try.prog 27 #[.slice a len cap] w (DrawLV w) := by
  have HD := hidH (drawPageLines a len cap (w.alloc (.cells #[.int .i64 0, .int .i64 0, .int .i64 0] 38)) (hc.below (bMore (Below.refl _ _) (.cells #[.int .i64 0, .int .i64 0, .int .i64 0] 38))) hl)
  have T_0 := hidH (LayAt.fresh w 0 0 0)
  have B0 := hidH (bMore (Below.refl w.heap.size w) (.cells #[.int .i64 0, .int .i64 0, .int .i64 0] 38))
  have z0 : (w.alloc (.cells #[.int .i64 0, .int .i64 0, .int .i64 0] 38)).heap.size = w.heap.size + 1 := by simp
  clear hc
  unfold layC at *
  go_enter Try.func27, Try.ntmps27
  go_wp2_with fail
  refine HD.out.mono ?_
  rintro e w1 ⟨X, Y, Z, c, v, zs, rfl, hv, h61, hB⟩
  have B1 := hidH (bThen B0.out hB)
  have T_1 := hidH (T_0.out.below hB)
  have hlo : w.heap.size + 1 ≤ (w.alloc (.cells #[.int .i64 0, .int .i64 0, .int .i64 0] 38)).heap.size + 1 := by omega
  have HY := hidH ((((hv.mono hlo (Nat.le_refl _)).setLow (Nat.lt_succ_self w.heap.size) 0 (.int .i64 X)).setLow (Nat.lt_succ_self w.heap.size) 1 (.int .i64 Y)).setLow (Nat.lt_succ_self w.heap.size) 2 (.int .i64 Z))
  obtain ⟨va, vc, rfl, _⟩ := hv
  have e0 := T_1.out.cell0
  have e1 := T_1.out.cell1
  have e2 := T_1.out.cell2
  have e3 := T_1.out.thaw
  have HG := hidH (((T_1.out.set0 X).set1 Y).set2 Z)
  have HB := hidH (((B1.out.setCell (p := ⟨w.heap.size, 0, none⟩) (Nat.le_refl _) (.int .i64 X)).setCell (p := ⟨w.heap.size, 1, none⟩) (Nat.le_refl _) (.int .i64 Y)).setCell (p := ⟨w.heap.size, 2, none⟩) (Nat.le_refl _) (.int .i64 Z))
  clear hB HD B0 T_0
  unfold layV
  go_wp2_with fail
  refine bodyPost_ret (results_layV2 Try.results27 _ _ w.heap.size X Y Z _ _ rfl rfl rfl (by exact HG.out)) rfl ?_
  exact ⟨_, _, _, _, _, zs, rfl, HY.out.mono (Nat.le_refl _) (by simp), h61, HB.out⟩
theorem ix_in (rn an pn : Nat) (W : Int) (c r : Nat) (hl : layOk rn an W = true) (hp : pn ≤ 59) (hc : c < an) (hr : r < rn) : ixA rn an W pn r c = if pn * (an * rn) + (c * rn + r) < 60 then ((pn * (an * rn) + (c * rn + r) : Nat) : Int) else -1 := by
  have hin : inPl rn an W pn r c = true := by
    unfold inPl
    rw [hl, decide_eq_true (show (0 : Int) ≤ (pn : Int) ∧ (pn : Int) ≤ 59 by omega), decide_eq_true (show (0 : Int) ≤ (r : Int) ∧ (r : Int) ≤ (rn : Int) - 1 by omega), decide_eq_true (show (0 : Int) ≤ (c : Int) ∧ (c : Int) ≤ (an : Int) - 1 by omega)]
    rfl
  have he : (pn : Int) * ((an : Int) * (rn : Int)) + (c : Int) * (rn : Int) + (r : Int) = ((pn * (an * rn) + (c * rn + r) : Nat) : Int) := by
    simp only [Int.natCast_add, Int.natCast_mul]
    omega
  unfold ixA
  rw [hin, if_pos rfl, he]
  by_cases h : pn * (an * rn) + (c * rn + r) < 60
  · rw [if_pos h, if_pos (by omega)]
  · rw [if_neg h, if_neg (by omega)]
set_option maxHeartbeats 4000000 in
theorem lawPageSums (a : Option Addr) (len cap : Nat) (w : World) (hc : Came w a len cap) : Calls Try.prog 9 #[.slice a len cap] w (Gives (.bool true) w) := by
  have hcap := hc.lenLe
  have hcap2 := hc.capLe
  unfold maxLen at hcap2
  by_cases hbig : 1048576 < len
  · clear hc
    go_enter Try.func9, Try.ntmps9
    go_wp2
    go_ret
    exact ⟨rfl, Below.refl _ _⟩
  · have HD := hidH (drawPageSums a len cap w hc (by omega))
    clear hc
    go_enter Try.func9, Try.ntmps9
    go_wp2_with fail
    refine HD.out.mono ?_
    rintro e w1 ⟨X, Y, Z, p, v, zs, rfl, hv, h61, hb⟩
    have hbA : Below w1.heap.size w1 (w1.alloc (layC X Y Z)) := bMore (Below.refl _ _) (layC X Y Z)
    have B1 := hidH (bThen hb hbA)
    have L_1 := hidH (LayAt.fresh w1 X Y Z)
    have V_1 := hidH ((hv.below hbA).mono (Nat.zero_le _) hbA.size)
    have C1 := hidH (Below.refl (w1.alloc (layC X Y Z)).heap.size (w1.alloc (layC X Y Z)))
    obtain ⟨av, cv, rfl, hlv, hcv, _, hcellv⟩ := V_1.out
    have HCV := hidH hcellv
    unfold maxLen at hcv
    have HI := hidH (fun W h hh => pageSums_any X Y Z (.slice av zs.length cv) zs p W 0 (w1.alloc (layC X Y Z)).heap.size h hh)
    have HS := hidH (fun W h => sPageSums_any X Y Z (.slice av zs.length cv) zs p W 0 (w1.alloc (layC X Y Z)).heap.size h)
    have HX := hidH (fun r c W => indexOf_any X Y Z p r c W)
    have S1 := hidH (Nat.le_refl (w1.alloc (layC X Y Z)).heap.size)
    clear hb hbA hv HD hcellv
    unfold layV layC at *
    have c0 := L_1.out.cell0
    have c1 := L_1.out.cell1
    have c2 := L_1.out.cell2
    go_wp2_with fail
    refine (HI.out _ V_1.out S1.out).mono ?_; rintro e v2 ⟨g, rfl, hr, hb⟩
    have B2 := hidH (bThen B1.out hb)
    have C2 := hidH (bThen C1.out hb)
    have S2 := hidH (Nat.le_trans S1.out hb.size)
    have V_2 := hidH (V_1.out.below hb)
    have L_2 := hidH (L_1.out.below hb)
    have G_2 := hidH hr
    clear hb c0 c1 c2 hr B1 C1 S1 V_1 L_1
    have c0 := L_2.out.cell0
    have c1 := L_2.out.cell1
    have c2 := L_2.out.cell2
    go_wp2_with fail
    refine (HS.out _ V_2.out).mono ?_; rintro e v3 ⟨s, rfl, hr, hb⟩
    have B3 := hidH (bThen B2.out hb)
    have C3 := hidH (bThen C2.out hb)
    have S3 := hidH (Nat.le_trans S2.out hb.size)
    have V_3 := hidH (V_2.out.below hb)
    have L_3 := hidH (L_2.out.below hb)
    have G_3 := hidH (G_2.out.below hb)
    have U_3 := hidH hr
    clear hb c0 c1 c2 hr B2 C2 S2 V_2 L_2 G_2
    have c0 := L_3.out.cell0
    have c1 := L_3.out.cell1
    have c2 := L_3.out.cell2
    go_wp2_with fail
    refine (deInts_yes g s (psA X Y Z zs p) _ _ _ _ _ G_3.out.lies U_3.out.lies).mono ?_; rintro e v4 ⟨rfl, hb⟩
    have B4 := hidH (bThen B3.out hb)
    have C4 := hidH (bThen C3.out hb)
    have S4 := hidH (Nat.le_trans S3.out hb.size)
    have V_4 := hidH (V_3.out.below hb)
    have L_4 := hidH (L_3.out.below hb)
    have G_4 := hidH (G_3.out.below hb)
    have U_4 := hidH (U_3.out.below hb)
    clear hb c0 c1 c2 B3 C3 S3 V_3 L_3 G_3 U_3
    clear U_4
    cases hok : pgOk X Y Z zs p
    · have hE : psA X Y Z zs p = [] := by unfold psA; rw [hok]; rfl
      rw [hE] at G_4 HS
      obtain ⟨ga, gc, rfl, _⟩ := G_4.out.lies
      clear hok hE
      have c0 := L_4.out.cell0
      have c1 := L_4.out.cell1
      have c2 := L_4.out.cell2
      go_wp2_with fail
      refine (HS.out _ V_4.out).mono ?_; rintro e v5 ⟨s2, rfl, hr, hb⟩
      have B5 := hidH (bThen B4.out hb)
      have C5 := hidH (bThen C4.out hb)
      have S5 := hidH (Nat.le_trans S4.out hb.size)
      have V_5 := hidH (V_4.out.below hb)
      have L_5 := hidH (L_4.out.below hb)
      have G_5 := hidH (G_4.out.below hb)
      have U_5 := hidH hr
      clear hb c0 c1 c2 hr B4 C4 S4 V_4 L_4 G_4
      have c0 := L_5.out.cell0
      have c1 := L_5.out.cell1
      have c2 := L_5.out.cell2
      go_wp2_with fail
      refine (deInts_yes _ s2 [] _ _ _ _ _ G_5.out.lies U_5.out.lies).mono ?_; rintro e v6 ⟨rfl, hb⟩
      have B6 := hidH (bThen B5.out hb)
      have C6 := hidH (bThen C5.out hb)
      have S6 := hidH (Nat.le_trans S5.out hb.size)
      have V_6 := hidH (V_5.out.below hb)
      have L_6 := hidH (L_5.out.below hb)
      have G_6 := hidH (G_5.out.below hb)
      have U_6 := hidH (U_5.out.below hb)
      clear hb c0 c1 c2 B5 C5 S5 V_5 L_5 G_5 U_5
      go_wp2_with fail
      go_ret
      exact ⟨rfl, B6.out⟩
    · obtain ⟨ht, hl, rn, an, pn, e1, e2, e3, hr1, hr2, ha1, ha2, hlt, hp59, hP1, hP2, hpa⟩ := pgOk_parts _ _ _ _ _ hok
      have hE : psA X Y Z zs p = psL rn an pn zs := by unfold psA; rw [hok, if_pos rfl, e1, e2, e3, Int.toNat_natCast, Int.toNat_natCast, Int.toNat_natCast]
      rw [hE] at G_4
      have ⟨_, t60, htb⟩ := (listOk_iff _ _ _).1 ht
      have hEb := hidH (fun x (hx : x ∈ pgE rn an pn zs) => htb x (pgE_mem hx))
      have HAT := hidH (fun c r hc hr => pgE_at rn an pn zs c r hc hr)
      have HEND := hidH (fun c r h => pgE_end rn an pn zs c r h)
      have HGET := hidH (fun c h => psL_get rn an pn zs c h)
      have HLEN := hidH (psL_length rn an pn zs)
      obtain ⟨F, hF⟩ : ∃ F, F = pn * (an * rn) := ⟨_, rfl⟩
      have HIX := hidH (fun (c r : Nat) (hc : c < an) (hr : r < rn) => show ixA X Y Z p r c = if F + (c * rn + r) < 60 then ((F + (c * rn + r) : Nat) : Int) else -1 from by
        rw [hF]; have h := ix_in rn an pn Z c r (by rw [← e1, ← e2]; exact hl) hp59 hc hr; rw [← e1, ← e2, ← e3] at h; exact h)
      rw [← hF] at hlt HAT HEND
      have HCA := hidH (fun (c : Nat) => show (c < rn → (c : Int) < X) ∧ (¬ c < rn → ¬ (c : Int) < X) by omega)
      have hXY : ((an : Int) == Y) = true := beq_iff_eq.2 (by omega)
      clear hok hE e1 e2 e3 ht hl hpa htb hP1 hP2 hF hp59 HS
      generalize pgE rn an pn zs = E at *
      generalize psL rn an pn zs = Q at *
      have hF60 : F ≤ 60 := by omega
      obtain ⟨bg, og, cg, rfl, hlg, hcg, _, _, hbg, hcellg⟩ := G_4.out.lies.addr (by rw [HLEN.out]; omega)
      have HCG := hidH hcellg
      have hlen : Q.length = an := HLEN.out
      unfold maxLen at hcg
      rw [hlen] at hlg ⊢
      clear hcellg hlen G_4
      have hgl := L_4.out.lt
      obtain ⟨bv, ov, cc, e, _, _, _, _, _, hcv4⟩ := V_4.out.addr (by omega)
      injection e with e1 e2 e3
      subst e1; subst e3
      have HCV4 := hidH hcv4
      have han0 : ((an : Int) == 0) = false := beq_eq_false_iff_ne.2 (by omega)
      clear hcv4 HCV e2
      have c0 := L_4.out.cell0
      have c1 := L_4.out.cell1
      have c2 := L_4.out.cell2
      go_wp2_with fail
      clear c0 c1 c2
      go_loopw [7] (fun i wr => ∃ c : Nat, c ≤ an ∧ i = .int .i64 c ∧ Below v4.heap.size v4 wr) (fun i _ => an - (intOf i).toNat)
      case atStart => exact ⟨0, Nat.zero_le _, rfl, Below.refl _ _⟩
      case round =>
        obtain ⟨c, hk, rfl, hb⟩ := hrel
        obtain ⟨wo, rfl⟩ : ∃ wo, wo = wr := ⟨wr, rfl⟩
        have HBo := hidH hb
        clear hb
        by_cases hltc : c < an
        · obtain ⟨G, hG⟩ : ∃ G, G = c * rn := ⟨_, rfl⟩
          have HGe := hidH hG
          have hG2 : G ≤ 120 := by have : c * rn ≤ 6 * 20 := Nat.mul_le_mul (by omega) hr2; omega
          clear hG
          have hLo := L_4.out.below HBo.out
          have c0 := hLo.cell0
          have c1 := hLo.cell1
          have c2 := hLo.cell2
          go_wp2_with fail
          clear c0 c1 c2 hLo
          go_loopw [8, 9] (fun n i wx => ∃ (r : Nat) (ss : Int), r ≤ rn ∧ i = .int .i64 r ∧ n = .int .i64 ss ∧ ss = colTo E rn c r ∧ Below v4.heap.size v4 wx) (fun _ i _ => rn - (intOf i).toNat)
          case atStart => exact ⟨0, 0, Nat.zero_le _, rfl, rfl, by unfold colTo; rw [List.take_zero]; rfl, HBo.out⟩
          case round =>
            obtain ⟨r, ss, hk2, rfl, rfl, hss, hb⟩ := hrel
            have HBx := hidH hb
            have ⟨b1, b2⟩ := colTo_bd E rn c r hEb.out (by omega)
            rw [← hss] at b1 b2
            have HSS := hidH hss
            have hLx := L_4.out.below HBx.out
            have c0 := hLx.cell0
            have c1 := hLx.cell1
            have c2 := hLx.cell2
            clear hss hb hLx
            by_cases hltr : r < rn
            · have hra := (HCA.out r).1 hltr
              obtain ⟨K, hKn⟩ : ∃ K : Nat, K = F + (G + r) := ⟨_, rfl⟩
              have hget := HAT.out c r hltc hltr
              rw [← HGe.out, ← hKn] at hget
              have HXc := hidH (HX.out r c)
              rw [HIX.out c r hltc hltr, ← HGe.out, ← hKn] at HXc
              by_cases hin : K < zs.length
              · obtain ⟨z, hz⟩ := get_lt zs K hin
                have hcv1 := HCV4.out K z hz
                have HCX := hidH hcv1
                rw [hz] at hget
                have HSt := hidH (colTo_step E rn c r z (by rw [← HGe.out]; exact hget))
                rw [← HSS.out] at HSt
                have ⟨z1, z2⟩ := hEb.out z (List.mem_of_getElem? hget)
                rw [if_pos (by omega)] at HXc
                clear hz hcv1 hget hKn
                go_wp2_with fail
                refine (HXc.out _).mono ?_; rintro e w9 ⟨rfl, hb⟩
                have HB9 := hidH (HBx.out.trans (hb.mono HBx.out.size))
                have hcw : w9.cell? ⟨bv, ov + K, none⟩ = some (.int .i64 z) := by rw [HB9.out.cell (p := ⟨bv, ov + K, none⟩) (cell_blk _ _ _ HCX.out)]; exact HCX.out
                clear hb c0 c1 c2
                go_wp2_with fail
                go_roundw
                case rel => exact ⟨r + 1, _, by omega, by go_num, rfl, by rw [HSt.out], HB9.out⟩
                case measure => simp [intOf]; omega
              · have hge : E.length ≤ c * rn + r := HEND.out c r (by rw [← HGe.out, ← hKn]; omega)
                have HSt := hidH (colTo_stay E rn c r hge)
                rw [← HSS.out] at HSt
                by_cases h60 : K < 60
                · rw [if_pos h60] at HXc
                  clear hget hKn hge
                  go_wp2_with fail
                  refine (HXc.out _).mono ?_; rintro e w9 ⟨rfl, hb⟩
                  have HB9 := hidH (HBx.out.trans (hb.mono HBx.out.size))
                  clear hb c0 c1 c2
                  go_wp2_with fail
                  go_roundw
                  case rel => exact ⟨r + 1, _, by omega, by go_num, rfl, by rw [HSt.out], HB9.out⟩
                  case measure => simp [intOf]; omega
                · rw [if_neg h60] at HXc
                  clear hget hKn hge
                  go_wp2_with fail
                  refine (HXc.out _).mono ?_; rintro e w9 ⟨rfl, hb⟩
                  have HB9 := hidH (HBx.out.trans (hb.mono HBx.out.size))
                  clear hb c0 c1 c2
                  go_wp2_with fail
                  go_roundw
                  case rel => exact ⟨r + 1, _, by omega, by go_num, rfl, by rw [HSt.out], HB9.out⟩
                  case measure => simp [intOf]; omega
            · obtain rfl : r = rn := by omega
              have hra := (HCA.out r).2 hltr
              have hgx := HCG.out c _ (HGET.out c hltc)
              rw [← HSS.out] at hgx
              have hgw : wr.cell? ⟨bg, og + c, none⟩ = some (.int .i64 ss) := by rw [HBx.out.cell (p := ⟨bg, og + c, none⟩) (cell_blk _ _ _ hgx)]; exact hgx
              clear hgx
              go_wp2_with fail
              go_roundw
              case rel => exact ⟨c + 1, by omega, by go_num, HBx.out⟩
              case measure => simp [intOf]; omega
        · obtain rfl : c = an := by omega
          have hLo := L_4.out.below HBo.out
          have c0 := hLo.cell0
          have c1 := hLo.cell1
          have c2 := hLo.cell2
          clear hLo
          go_wp2_with fail
          go_ret
          exact ⟨by first | rfl | simp_all, B4.out.trans (HBo.out.mono B4.out.size)⟩
end Go.Proofs.Ytnndeiiolnefkaa
