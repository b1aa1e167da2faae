/-
  The walk of a law: the entries with wrong remainders are those whose difference to the given remainder is no multiple of 9, or whose given one is no remainder. No conditions but that the bytes that came in can be read.
-/
import Derived.Test.YtojpnlipfbahdaaErrKe
import Derived.Test.YtojpnlipfbahdaaErrH
import Derived.Test.YtojpnlipfbahdaaDeFns
namespace Go.Proofs.Ytojpnlipfbahdaa
set_option maxRecDepth 4000
open Go.RowKit
theorem drewN_add (w : World) (a b : Nat) : (w.drewN a).drewN b = w.drewN (a + b) := by simp [World.drewN, Nat.add_assoc]
theorem diffTo_prefix (R ns : List Int) (k N : Nat) (h : k ≤ N) : ∃ t, diffTo R ns N = diffTo R ns k ++ t := by
  induction N with
  | zero => obtain rfl : k = 0 := by omega
            exact ⟨[], rfl⟩
  | succ N ih =>
    by_cases e : k = N + 1
    · subst e; exact ⟨[], by simp⟩
    · obtain ⟨t, ht⟩ := ih (by omega)
      rw [diffTo]
      split
      · exact ⟨t, ht⟩
      · exact ⟨t ++ [(N : Int)], by rw [ht, List.append_assoc]⟩
theorem rest_ne (z m : Int) (h0 : 0 ≤ m) (h8 : m ≤ 8) : (z - m) % 9 = 0 ↔ restN z 9 = m := by unfold restN; omega
set_option maxHeartbeats 2000000 in
theorem lawWrongNines (a : Option Addr) (len cap : Nat) (w : World) (hc : Came w a len cap) : Calls Try.prog 7 #[.slice a len cap] w (Gives (.bool true) w) := by
  have hcap := hc.lenLe
  have hcap2 := hc.capLe
  unfold maxLen at hcap2
  by_cases hbig : 1048576 < len
  · clear hc
    go_enter Try.func7, Try.ntmps7
    go_wp2
    go_ret
    exact ⟨rfl, Below.refl _ _⟩
  · have HD := hidH (drawWrongNines a len cap w hc (by omega))
    clear hc
    go_enter Try.func7, Try.ntmps7
    go_wp2_with fail
    refine HD.out.mono ?_
    rintro e w1 ⟨v, u, zs, ns, rfl, hv, hu, h61, h100, hnb, hB⟩
    have V_1 := hidH hv
    have U_1 := hidH hu
    have B1 := hidH hB
    have C1 := hidH (Below.refl w1.heap.size w1)
    have HNB := hidH hnb
    obtain ⟨av, cv, rfl, hlv, hcv, _, hcellv⟩ := hv
    obtain ⟨au, cu, rfl, hlu, hcu, _, hcellu⟩ := hu
    have HCV := hidH hcellv
    have HCU := hidH hcellu
    unfold maxLen at hcv hcu
    clear hB HD hcellv hcellu hnb
    go_wp2_with fail
    refine (wrong_any (.slice av zs.length cv) zs (.slice au ns.length cu) ns w1 _ _ _ _ V_1.out U_1.out).mono ?_; rintro e w2 ⟨l, rfl, hr, hb⟩
    have B2 := hidH (B1.out.trans (hb.mono B1.out.size))
    have C2 := hidH (C1.out.trans (hb.mono C1.out.size))
    have V_2 := hidH (V_1.out.below hb)
    have U_2 := hidH (U_1.out.below hb)
    have L_2 := hidH hr
    clear hb hr B1 C1 V_1 U_1
    go_wp2_with fail
    refine (sWrong_any (.slice av zs.length cv) zs (.slice au ns.length cu) ns w2 _ _ _ _ V_2.out U_2.out).mono ?_; rintro e w3 ⟨s, rfl, hr, hb⟩
    have B3 := hidH (B2.out.trans (hb.mono B2.out.size))
    have C3 := hidH (C2.out.trans (hb.mono C2.out.size))
    have V_3 := hidH (V_2.out.below hb)
    have U_3 := hidH (U_2.out.below hb)
    have L_3 := hidH (L_2.out.below hb)
    have S_3 := hidH hr
    clear hb hr B2 C2 V_2 U_2 L_2
    go_wp2_with fail
    refine (deInts_yes l s (wrongA zs ns) _ _ _ _ _ L_3.out.lies S_3.out.lies).mono ?_; rintro e w4 ⟨rfl, hb⟩
    have B4 := hidH (B3.out.trans (hb.mono B3.out.size))
    have C4 := hidH (C3.out.trans (hb.mono C3.out.size))
    have V_4 := hidH (V_3.out.below hb)
    have U_4 := hidH (U_3.out.below hb)
    have L_4 := hidH (L_3.out.below hb)
    have S_4 := hidH (S_3.out.below hb)
    clear hb B3 C3 V_3 U_3 L_3 S_3
    clear S_4
    have hlA := wrongA_len zs ns
    cases ht : tableOk zs
    · have HT := hidH ht
      clear ht
      go_wp2_with fail
      refine (tableValid_any (.slice av zs.length cv) zs w4 _ _ V_4.out).mono ?_; rintro e w5 ⟨rfl, hb⟩
      have B5 := hidH (B4.out.trans (hb.mono B4.out.size))
      have C5 := hidH (C4.out.trans (hb.mono C4.out.size))
      have V_5 := hidH (V_4.out.below hb)
      have U_5 := hidH (U_4.out.below hb)
      have L_5 := hidH (L_4.out.below hb)
      clear hb B4 C4 V_4 U_4 L_4
      rw [HT.out]
      go_wp2_with fail
      refine (sWrong_any (.slice av zs.length cv) zs (.slice au ns.length cu) ns w5 _ _ _ _ V_5.out U_5.out).mono ?_; rintro e w6 ⟨s, rfl, hr, hb⟩
      have B6 := hidH (B5.out.trans (hb.mono B5.out.size))
      have C6 := hidH (C5.out.trans (hb.mono C5.out.size))
      have V_6 := hidH (V_5.out.below hb)
      have U_6 := hidH (U_5.out.below hb)
      have L_6 := hidH (L_5.out.below hb)
      have S_6 := hidH hr
      clear hb hr B5 C5 V_5 U_5 L_5
      go_wp2_with fail
      refine (deInts_yes l s (wrongA zs ns) _ _ _ _ _ L_6.out.lies S_6.out.lies).mono ?_; rintro e w7 ⟨rfl, hb⟩
      have B7 := hidH (B6.out.trans (hb.mono B6.out.size))
      have C7 := hidH (C6.out.trans (hb.mono C6.out.size))
      have V_7 := hidH (V_6.out.below hb)
      have U_7 := hidH (U_6.out.below hb)
      have L_7 := hidH (L_6.out.below hb)
      have S_7 := hidH (S_6.out.below hb)
      clear hb B6 C6 V_6 U_6 L_6 S_6
      go_wp2_with fail
      go_ret
      exact ⟨rfl, B7.out⟩
    · have HT := hidH ht
      have ⟨ht1, ht2⟩ := tableOk_len _ ht
      have hRL : restA 9 zs = restL zs 9 := by rw [restA, ht]; rfl
      clear ht
      by_cases hln : ns.length = zs.length
      · have hE : wrongA zs ns = diffTo (restL zs 9) ns zs.length := by rw [wrongA, hRL, restL_length, if_pos hln.symm, hln]
        have hb1 : ((ns.length : Int) != (zs.length : Int)) = false := by rw [hln]; exact bne_self_eq_false _
        have hb2 : ((ns.length : Int) == (zs.length : Int)) = true := by rw [hln]; exact beq_self_eq_true _
        have HLN := hidH hln
        rw [hE] at L_4 hlA
        clear hln hE hRL
        go_wp2_with fail
        refine (tableValid_any (.slice av zs.length cv) zs w4 _ _ V_4.out).mono ?_; rintro e w5 ⟨rfl, hb⟩
        have B5 := hidH (B4.out.trans (hb.mono B4.out.size))
        have C5 := hidH (C4.out.trans (hb.mono C4.out.size))
        have V_5 := hidH (V_4.out.below hb)
        have U_5 := hidH (U_4.out.below hb)
        have L_5 := hidH (L_4.out.below hb)
        clear hb B4 C4 V_4 U_4 L_4
        rw [HT.out]
        obtain ⟨al, cl, rfl, hll, hcl, _, hcelll⟩ := L_5.out.lies
        have HCL := hidH hcelll
        unfold maxLen at hcl
        clear hcelll
        generalize hDD : diffTo (restL zs 9) ns zs.length = DD at *
        have HDD := hidH hDD
        clear hDD
        go_wp2_with fail
        go_loopw [6, 7] (fun n i wr => ∃ (j q p : Nat), j ≤ zs.length ∧ i = .int .i64 j ∧ n = .int .i64 p ∧ p = (diffTo (restL zs 9) ns j).length ∧ wr = w5.drewN q) (fun _ i _ => zs.length - (intOf i).toNat)
        case atStart => exact ⟨0, 0, 0, Nat.zero_le _, rfl, rfl, rfl, rfl⟩
        case round =>
          obtain ⟨j, q, p, hj, rfl, rfl, hp, rfl⟩ := hrel
          have HP := hidH hp
          have hpj := diffTo_le (restL zs 9) ns j
          rw [← hp] at hpj
          clear hp
          by_cases hlt : j < zs.length
          · obtain ⟨z, hz⟩ := get_lt zs j hlt
            have hjn : j < ns.length := by rw [HLN.out]; exact hlt
            obtain ⟨m, hm⟩ := get_lt ns j hjn
            have ⟨z1, z2⟩ := tab_bd HT.out hz
            have ⟨m1, m2⟩ := HNB.out m (List.mem_of_getElem? hm)
            obtain ⟨bz, oz, rfl, _, hbz, hcz⟩ := HCV.out j z hz
            obtain ⟨bm, om, rfl, _, hbm, hcm⟩ := HCU.out j m hm
            have hcw : w5.cell? ⟨bz, oz + j, none⟩ = some (.int .i64 z) := by rw [C5.out.cell (p := ⟨bz, oz + j, none⟩) hbz]; exact hcz
            have hcwm : w5.cell? ⟨bm, om + j, none⟩ = some (.int .i64 m) := by rw [C5.out.cell (p := ⟨bm, om + j, none⟩) hbm]; exact hcm
            have hw : IntKind.i64.wrap (z - m) = z - m := IntWalk.i64_in _ (by omega)
            have hn1 : ¬ m < 0 := by omega
            have hn2 : ¬ 8 < m := by omega
            have hgR := restL_get zs 9 j z hz
            have hz9 := rest_ne z m m1 m2
            clear hcz hcm
            by_cases he : restN z 9 = m
            · have ht0 : (z - m).tmod 9 = 0 := Int.tmod_eq_zero_of_dvd (Int.dvd_of_emod_eq_zero (hz9.2 he))
              have hb3 : ((z - m).tmod 9 != 0) = false := by rw [ht0]; rfl
              have HSAME := hidH (show diffTo (restL zs 9) ns (j + 1) = diffTo (restL zs 9) ns j from diff_same hgR hm he)
              clear hz hm hgR hz9 he
              go_wp2_with fail
              go_quiet (fail)
              go_wp2_with fail
              go_roundw
              case rel => exact ⟨j + 1, _, p, by omega, by go_num, rfl, by rw [HSAME.out]; exact HP.out, by first | rfl | exact drewN_add _ _ _⟩
              case measure => simp [intOf]; omega
            · have ht0 : ¬ (z - m).tmod 9 = 0 := fun e => he (hz9.1 (Int.emod_eq_zero_of_dvd (Int.dvd_of_tmod_eq_zero e)))
              have hb3 : ((z - m).tmod 9 != 0) = true := bne_iff_ne.2 ht0
              have hb4 : ((z - m).tmod 9 == 0) = false := beq_eq_false_iff_ne.2 ht0
              have HOT := hidH (show diffTo (restL zs 9) ns (j + 1) = diffTo (restL zs 9) ns j ++ [(j : Int)] from diff_other hgR hm he)
              obtain ⟨t, htt⟩ := diffTo_prefix (restL zs 9) ns (j + 1) zs.length (by omega)
              rw [HDD.out, HOT.out] at htt
              have hgp : DD[p]? = some (j : Int) := by
                rw [htt, List.append_assoc, List.getElem?_append_right (by rw [← HP.out]; exact Nat.le_refl _), ← HP.out, Nat.sub_self]; rfl
              have hpl := (List.getElem?_eq_some_iff.1 hgp).1
              obtain ⟨bl, ol, rfl, _, _, hcl'⟩ := HCL.out p _ hgp
              have HPN := hidH (show p + 1 = (diffTo (restL zs 9) ns (j + 1)).length by rw [HOT.out, List.length_append, ← HP.out]; rfl)
              clear hz hm hgR hz9 he ht0 htt hgp
              go_wp2_with fail
              go_quiet (fail)
              go_wp2_with fail
              go_roundw
              case rel => exact ⟨j + 1, _, p + 1, by omega, by go_num, by go_num, HPN.out, by first | rfl | exact drewN_add _ _ _⟩
              case measure => simp [intOf]; omega
          · obtain rfl : j = zs.length := by omega
            have hpe : (p : Int) = (DD.length : Int) := by rw [HP.out, HDD.out]
            go_wp2_with fail
            go_ret
            exact ⟨rfl, below_drewN B5.out q⟩
      · have hb1 : ((ns.length : Int) != (zs.length : Int)) = true := by simp; omega
        have hb2 : ((ns.length : Int) == (zs.length : Int)) = false := by simp; omega
        clear hln
        go_wp2_with fail
        refine (tableValid_any (.slice av zs.length cv) zs w4 _ _ V_4.out).mono ?_; rintro e w5 ⟨rfl, hb⟩
        have B5 := hidH (B4.out.trans (hb.mono B4.out.size))
        have C5 := hidH (C4.out.trans (hb.mono C4.out.size))
        have V_5 := hidH (V_4.out.below hb)
        have U_5 := hidH (U_4.out.below hb)
        have L_5 := hidH (L_4.out.below hb)
        clear hb B4 C4 V_4 U_4 L_4
        rw [HT.out]
        go_wp2_with fail
        refine (sWrong_any (.slice av zs.length cv) zs (.slice au ns.length cu) ns w5 _ _ _ _ V_5.out U_5.out).mono ?_; rintro e w6 ⟨s, rfl, hr, hb⟩
        have B6 := hidH (B5.out.trans (hb.mono B5.out.size))
        have C6 := hidH (C5.out.trans (hb.mono C5.out.size))
        have V_6 := hidH (V_5.out.below hb)
        have U_6 := hidH (U_5.out.below hb)
        have L_6 := hidH (L_5.out.below hb)
        have S_6 := hidH hr
        clear hb hr B5 C5 V_5 U_5 L_5
        go_wp2_with fail
        refine (deInts_yes l s (wrongA zs ns) _ _ _ _ _ L_6.out.lies S_6.out.lies).mono ?_; rintro e w7 ⟨rfl, hb⟩
        have B7 := hidH (B6.out.trans (hb.mono B6.out.size))
        have C7 := hidH (C6.out.trans (hb.mono C6.out.size))
        have V_7 := hidH (V_6.out.below hb)
        have U_7 := hidH (U_6.out.below hb)
        have L_7 := hidH (L_6.out.below hb)
        have S_7 := hidH (S_6.out.below hb)
        clear hb B6 C6 V_6 U_6 L_6 S_6
        go_wp2_with fail
        go_ret
        exact ⟨rfl, B7.out⟩
end Go.Proofs.Ytojpnlipfbahdaa
