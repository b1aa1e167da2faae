/-
  The walk of a law: an error of an entry changes the differences of each order by its pattern. No conditions but that the bytes that came in can be read.
-/
import Derived.Test.YtlicihjjbojpcaaErrPa
import Derived.Test.YtlicihjjbojpcaaErrM
import Derived.Test.YtlicihjjbojpcaaErrPm
import Derived.Test.YtlicihjjbojpcaaLlP
import Derived.Test.YtlicihjjbojpcaaDeFns
namespace Go.Proofs.Ytlicihjjbojpcaa
set_option maxRecDepth 4000
open Go.RowKit
theorem drewN_addP (w : World) (a b : Nat) : (w.drewN a).drewN b = w.drewN (a + b) := by simp [World.drewN, Nat.add_assoc]
theorem row_cells {w : World} {lo hi b : Nat} {n cap : Nat} {zs : List Int} (H : Row w lo hi (.slice (some ⟨b, 0, none⟩) n cap) zs) (j : Nat) (z : Int) (hz : zs[j]? = some z) : w.cell? ⟨b, j, none⟩ = some (.int .i64 z) := by
  obtain ⟨a, c, e, _, _, _, h⟩ := H
  injection e with e1 e2 e3
  subst e1
  obtain ⟨b', e, _, _, hc, _⟩ := h j z hz
  injection e with e
  injection e with e
  subst e
  exact hc
/-- A row of rows, the row with the index o. -/
theorem rowL_at {w : World} {lo hi : Nat} {v : Value} {zss : List (List Int)} (H : RowL w lo hi v zss) (o : Nat) (ys : List Int) (ho : zss[o]? = some ys) (h0 : 0 < ys.length) : ∃ b cap g gc, v = .slice (some ⟨b, 0, none⟩) zss.length cap ∧ zss.length ≤ cap ∧ cap ≤ maxLen ∧ w.cell? ⟨b, o, none⟩ = some (.slice (some ⟨g, 0, none⟩) ys.length gc) ∧ ys.length ≤ gc ∧ gc ≤ maxLen ∧ ∀ (j : Nat) z, ys[j]? = some z → w.cell? ⟨g, j, none⟩ = some (.int .i64 z) := by
  have hol := (List.getElem?_eq_some_iff.1 ho).1
  rcases H with ⟨e, _⟩ | ⟨b, cap, f, rfl, _, h1, h2, _, _, _, _, _, hL⟩
  · rw [e] at hol; simp at hol
  · obtain ⟨a, c, hc, _, _, _, hr⟩ := hL o ys ho
    obtain ⟨g, gc, e, h3, h4, _, _, hk⟩ := hr.blk h0
    injection e with e1 e2 e3
    subst e1; subst e3
    exact ⟨b, cap, g, c, rfl, h1, h2, hc, h3, h4, fun j z hz => (hk.2 j z hz).1⟩
theorem rowL_len {w : World} {lo hi : Nat} {v : Value} {zss : List (List Int)} (H : RowL w lo hi v zss) : ∃ a cap, v = .slice a zss.length cap ∧ zss.length ≤ cap ∧ cap ≤ maxLen := by
  rcases H with ⟨rfl, a, cap, rfl, h⟩ | ⟨b, cap, f, rfl, _, h1, h2, _⟩
  · exact ⟨a, cap, rfl, Nat.zero_le _, h⟩
  · exact ⟨_, cap, rfl, h1, h2⟩
set_option maxHeartbeats 4000000 in
theorem lawPattern (a : Option Addr) (len cap : Nat) (a2 : Option Addr) (len2 cap2 : Nat) (w : World) (hc : Came w a len cap) (hc2 : Came w a2 len2 cap2) : Calls Try.prog 8 #[.slice a len cap, .slice a2 len2 cap2] w (Gives (.bool true) w) := by
  have hcap := hc.lenLe
  have hcap2 := hc.capLe
  have hcap3 := hc2.lenLe
  have hcap4 := hc2.capLe
  unfold maxLen at hcap2 hcap4
  by_cases hbig : 1048576 < len
  · clear hc hc2
    go_enter Try.func8, Try.ntmps8
    go_wp2
    go_ret
    exact ⟨rfl, Below.refl _ _⟩
  by_cases hbig2 : 1048576 < len2
  · clear hc hc2
    go_enter Try.func8, Try.ntmps8
    go_wp2
    go_ret
    exact ⟨rfl, Below.refl _ _⟩
  have HD := hidH (drawPutError a len cap w hc (by omega))
  clear hc hc2
  go_enter Try.func8, Try.ntmps8
  go_wp2_with fail
  refine HD.out.mono ?_
  rintro e w1 ⟨v, zs, kk, am, rfl, hv, h61, hB⟩
  have V_1 := hidH hv
  have B1 := hidH hB
  have C1 := hidH (Below.refl w1.heap.size w1)
  obtain ⟨av, cv, rfl, hlv, hcv, _, hcellv⟩ := hv
  unfold maxLen at hcv
  clear hB HD hcellv
  go_wp2_with fail
  refine (put_any (.slice av zs.length cv) zs kk am w1 _ _ V_1.out).mono ?_; rintro e w2 ⟨x, rfl, hr, hb⟩
  have B2 := hidH (B1.out.trans (hb.mono B1.out.size))
  have C2 := hidH (C1.out.trans (hb.mono C1.out.size))
  have V_2 := hidH (V_1.out.below hb)
  have X_2 := hidH hr
  clear hb hr B1 C1 V_1
  go_wp2_with fail
  refine (sPut_any (.slice av zs.length cv) zs kk am w2 _ _ V_2.out).mono ?_; rintro e w3 ⟨s, rfl, hr, hb⟩
  have B3 := hidH (B2.out.trans (hb.mono B2.out.size))
  have C3 := hidH (C2.out.trans (hb.mono C2.out.size))
  have V_3 := hidH (V_2.out.below hb)
  have X_3 := hidH (X_2.out.below hb)
  have S_3 := hidH hr
  clear hb hr B2 C2 V_2 X_2
  have hlA := putA_len zs kk am
  go_wp2_with fail
  refine (deInts_yes x s (putA zs kk am) _ _ _ _ _ X_3.out.lies S_3.out.lies).mono ?_; rintro e w4 ⟨rfl, hb⟩
  have B4 := hidH (B3.out.trans (hb.mono B3.out.size))
  have C4 := hidH (C3.out.trans (hb.mono C3.out.size))
  have V_4 := hidH (V_3.out.below hb)
  have X_4 := hidH (X_3.out.below hb)
  have S_4 := hidH (S_3.out.below hb)
  clear hb B3 C3 V_3 X_3 S_3
  cases hp : putOk zs kk am
  · go_wp2_with fail
    refine (deInts_yes x s (putA zs kk am) _ _ _ _ _ X_4.out.lies S_4.out.lies).mono ?_; rintro e w5 ⟨rfl, hb⟩
    have B5 := hidH (B4.out.trans (hb.mono B4.out.size))
    have C5 := hidH (C4.out.trans (hb.mono C4.out.size))
    have V_5 := hidH (V_4.out.below hb)
    have X_5 := hidH (X_4.out.below hb)
    have S_5 := hidH (S_4.out.below hb)
    clear hb B4 C4 V_4 X_4 S_4
    go_wp2_with fail
    go_ret
    exact ⟨rfl, B5.out⟩
  · by_cases hl30 : zs.length ≤ 30
    · have HT := put_tab zs kk am hp
      obtain ⟨k, rfl⟩ : ∃ k : Nat, kk = (k : Int) := ⟨kk.toNat, by omega⟩
      rw [Int.toNat_natCast] at HT
      obtain ⟨ht2, _, hk, ht⟩ := HT
      have hkl : k < zs.length := by omega
      have ha : -1000000000 ≤ am ∧ am ≤ 1000000000 := by
        have h' := hp
        unfold putOk at h'
        simp only [Bool.and_eq_true] at h'
        exact of_decide_eq_true h'.2.2.1
      obtain ⟨ha1, ha2⟩ := ha
      have HPA := hidH (show putA zs (k : Int) am = putL zs k am by rw [putA, hp, if_pos rfl, Int.toNat_natCast])
      rw [HPA.out] at X_4
      have hpl := putL_length zs k am
      have hsz : (tableOk zs && shortOk zs) = true := by rw [ht, Bool.true_and]; exact decide_eq_true hl30
      have hsx : (tableOk (putL zs k am) && shortOk (putL zs k am)) = true := by rw [ht2, Bool.true_and]; exact decide_eq_true (by rw [hpl]; exact hl30)
      have HDZ := hidH (dtA_yes zs hsz)
      have HDX := hidH (dtA_yes (putL zs k am) hsx)
      have HADD := hidH (err_adds zs k am hkl (tab_abs zs ht) (tab_abs _ ht2))
      have HBZ := hidH (fun o (h : o ≤ 7) => difN_bd zs 1000000000 (tab_abs zs ht) o (by have : (2 : Nat) ^ o ≤ 2 ^ 7 := Nat.pow_le_pow_right (by decide) h; omega))
      have HBX := hidH (fun o (h : o ≤ 7) => difN_bd (putL zs k am) 1000000000 (tab_abs _ ht2) o (by have : (2 : Nat) ^ o ≤ 2 ^ 7 := Nat.pow_le_pow_right (by decide) h; omega))
      obtain ⟨pb, pc, rfl, hpc, hpm, _, _, _⟩ := X_4.out.blk (by omega)
      unfold maxLen at hpm
      obtain ⟨o, hq1, ho⟩ : ∃ o : Nat, (len2 : Int) % 8 = (o : Int) ∧ o ≤ 7 := ⟨len2 % 8, by omega, by omega⟩
      have HPT := hidH (show patA (o : Int) am = patL o am by
        unfold patA
        rw [show (patOk (o : Int) am && inB 1000000000 am) = true by unfold patOk inB; simp; omega, if_pos rfl, Int.toNat_natCast])
      have HXL := hidH hpl
      clear hp ht ht2 hsz hsx S_4 hlA hpl
      generalize putL zs k am = xs at *
      rw [HXL.out] at HDX
      go_wp2_with fail
      refine (pattern_any (o : Int) am w4).mono ?_; rintro e w5 ⟨pv, rfl, hr, hb⟩
      have B5 := hidH (B4.out.trans (hb.mono B4.out.size))
      have C5 := hidH (C4.out.trans (hb.mono C4.out.size))
      have V_5 := hidH (V_4.out.below hb)
      have X_5 := hidH (X_4.out.below hb)
      have P_5 := hidH hr
      clear hb hr B4 C4 V_4 X_4
      rw [HPT.out] at P_5
      go_wp2_with fail
      refine (diffTable_any (.slice av zs.length cv) zs w5 _ _ V_5.out).mono ?_; rintro e w6 ⟨tv, rfl, hr, hb⟩
      have B6 := hidH (B5.out.trans (hb.mono B5.out.size))
      have C6 := hidH (C5.out.trans (hb.mono C5.out.size))
      have V_6 := hidH (V_5.out.below hb)
      have X_6 := hidH (X_5.out.below hb)
      have P_6 := hidH (P_5.out.below hb)
      have T_6 := hidH hr
      clear hb hr B5 C5 V_5 X_5 P_5
      rw [HDZ.out] at T_6
      go_wp2_with fail
      refine (diffTable_any (.slice (some ⟨pb, 0, none⟩) xs.length pc) xs w6 _ _ X_6.out.lies).mono ?_; rintro e w7 ⟨uv, rfl, hr, hb⟩
      have B7 := hidH (B6.out.trans (hb.mono B6.out.size))
      have C7 := hidH (C6.out.trans (hb.mono C6.out.size))
      have V_7 := hidH (V_6.out.below hb)
      have X_7 := hidH (X_6.out.below hb)
      have P_7 := hidH (P_6.out.below hb)
      have T_7 := hidH (T_6.out.below hb)
      have U_7 := hidH hr
      clear hb hr B6 C6 V_6 X_6 P_6 T_6
      rw [HDX.out] at U_7
      have HPL := hidH (patL_length o am)
      obtain ⟨qb, qc, rfl, hqc, hqm, _, _, hqk⟩ := P_7.out.blk (by rw [HPL.out]; omega)
      rw [HPL.out] at hqc
      rw [HPL.out]
      unfold maxLen at hqm
      have HQK := hidH hqk
      clear hqk
      have hpe : ((o + 1 : Nat) : Int) = (o : Int) + 1 := by omega
      by_cases hol : zs.length ≤ o
      · obtain ⟨ta, tc, rfl, htc, htm⟩ := rowL_len T_7.out
        rw [rowsL_length] at htc ⊢
        unfold maxLen at htm
        go_wp2_with fail
        go_ret
        exact ⟨rfl, B7.out⟩
      · have hlz := difN_length o zs
        have hlx := difN_length o xs
        rw [HXL.out] at hlx
        obtain ⟨tb, tc, tg, tgc, rfl, htc, htm, htcell, htg1, htg2, hti⟩ := rowL_at T_7.out o _ (rowsL_get zs zs.length o (by omega)) (by omega)
        obtain ⟨ub, uc, ug, ugc, rfl, huc, hum, hucell, hug1, hug2, hui⟩ := rowL_at U_7.out o _ (by have := rowsL_get xs zs.length o (by omega); exact this) (by omega)
        simp only [rowsL_length] at htc huc ⊢
        unfold maxLen at htm hum htg2 hug2
        have HTI := hidH hti
        have HUI := hidH hui
        have HLZ := hidH hlz
        have HLX := hidH hlx
        rw [hlz] at htcell htg1
        rw [hlx] at hucell hug1
        have hln : zs.length - o ≤ 30 := by omega
        have hol2 : o < zs.length := by omega
        have hdo : decide (zs.length ≤ o) = false := decide_eq_false hol
        clear hti hui hlz hlx hol hpe
        go_wp2_with fail
        
        go_loopw [16] (fun c wr => ∃ i q : Nat, i ≤ zs.length - o ∧ c = .int .i64 i ∧ wr = w7.drewN q) (fun c _ => zs.length - o - (intOf c).toNat)
        case atStart => exact ⟨0, 0, Nat.zero_le _, rfl, rfl⟩
        case round =>
          obtain ⟨i, q, hi, rfl, rfl⟩ := hrel
          by_cases hlt : i < zs.length - o
          · obtain ⟨u, hu⟩ := get_lt (difN o zs) i (by rw [HLZ.out]; exact hlt)
            obtain ⟨x, hx⟩ := get_lt (difN o xs) i (by rw [HLX.out]; exact hlt)
            have hadd := HADD.out o ho i u x hu hx
            have hub := HBZ.out o ho u (List.mem_of_getElem? hu)
            have hxb := HBX.out o ho x (List.mem_of_getElem? hx)
            have hp7 : (2 : Nat) ^ o ≤ 2 ^ 7 := Nat.pow_le_pow_right (by decide) ho
            have hcu := HTI.out i u hu
            have hcx := HUI.out i x hx
            have hu1 : -128000000000 ≤ u ∧ u ≤ 128000000000 := by omega
            have hx1 : -128000000000 ≤ x ∧ x ≤ 128000000000 := by omega
            obtain ⟨hu1, hu2⟩ := hu1
            obtain ⟨hx1, hx2⟩ := hx1
            have hwr : IntKind.i64.wrap (x - u) = x - u := IntWalk.i64_in _ (by omega)
            clear hu hx hub hxb hp7
            by_cases h1 : i + o < k
            · rw [coef_low o k i (by omega), Int.zero_mul, Int.add_zero] at hadd
              have hdb : (x - u != 0) = false := by rw [hadd, Int.sub_self]; rfl
              have hneg : (i : Int) - (k : Int) + (o : Int) < 0 := by omega
              clear hadd
              go_wp2_with fail
              go_region
              go_wp2_with fail
              go_roundw
              case rel => exact ⟨i + 1, _, by omega, by go_num, by first | rfl | exact drewN_addP _ _ _⟩
              case measure => simp [intOf]; omega
            · by_cases h2 : k < i
              · rw [coef_high o k i h2, Int.zero_mul, Int.add_zero] at hadd
                have hdb : (x - u != 0) = false := by rw [hadd, Int.sub_self]; rfl
                have hneg : (o : Int) < (i : Int) - (k : Int) + (o : Int) := by omega
                have hneg2 : 0 ≤ (i : Int) - (k : Int) + (o : Int) := by omega
                clear hadd
                go_wp2_with fail
                go_region
                go_wp2_with fail
                go_roundw
                case rel => exact ⟨i + 1, _, by omega, by go_num, by first | rfl | exact drewN_addP _ _ _⟩
                case measure => simp [intOf]; omega
              · obtain ⟨m, hm, hmo, hme⟩ : ∃ m : Nat, (i : Int) - (k : Int) + (o : Int) = (m : Int) ∧ m ≤ o ∧ i + o - k = m := ⟨i + o - k, by omega, by omega, rfl⟩
                rw [coef_pat o k i ho (by omega) (by omega), hme] at hadd
                have hpc0 := (HQK.out.2 m _ (patL_get o am m hmo)).1
                have hdb : (x - u != sg m * chN o m * am) = false := by
                  rw [hadd, show u + sg m * chN o m * am - u = sg m * chN o m * am by omega]; exact bne_self_eq_false _
                have hmo2 : m < o + 1 := by omega
                generalize sg m * chN o m * am = pz at *
                clear hadd hme
                go_wp2_with fail
                go_region
                go_wp2_with fail
                go_roundw
                case rel => exact ⟨i + 1, _, by omega, by go_num, by first | rfl | exact drewN_addP _ _ _⟩
                case measure => simp [intOf]; omega
          · obtain rfl : i = zs.length - o := by omega
            have HSP := hidH (fun W => sPattern_any (o : Int) am W)
            rw [HPT.out] at HSP
            have hpe : ((o + 1 : Nat) : Int) = (o : Int) + 1 := by omega
            have HP1 := hidH (P_7.out.below (below_drewN (Below.refl _ _) q))
            have HBQ := hidH (below_drewN B7.out q)
            go_wp2_with fail
            refine (HSP.out _).mono ?_; rintro e w8 ⟨sv, rfl, hr, hb⟩
            have HS8 := hidH hr
            have HP8 := hidH (HP1.out.below hb)
            have HB8 := hidH (HBQ.out.trans (hb.mono HBQ.out.size))
            clear hr hb
            go_wp2_with fail
            refine (deInts_yes _ _ (patL o am) _ _ _ _ _ (by have h := HP8.out.lies; rw [HPL.out] at h; exact h) HS8.out.lies).mono ?_; rintro e w9 ⟨rfl, hb⟩
            have HB9 := hidH (HB8.out.trans (hb.mono HB8.out.size))
            clear hb
            go_wp2_with fail
            go_ret
            exact ⟨rfl, HB9.out⟩
    · have h30 : (30 : Int) < (zs.length : Int) := by omega
      clear hp hl30
      go_wp2_with fail
      refine (deInts_yes x s (putA zs kk am) _ _ _ _ _ X_4.out.lies S_4.out.lies).mono ?_; rintro e w5 ⟨rfl, hb⟩
      have B5 := hidH (B4.out.trans (hb.mono B4.out.size))
      have C5 := hidH (C4.out.trans (hb.mono C4.out.size))
      have V_5 := hidH (V_4.out.below hb)
      have X_5 := hidH (X_4.out.below hb)
      have S_5 := hidH (S_4.out.below hb)
      clear hb B4 C4 V_4 X_4 S_4
      go_wp2_with fail
      go_ret
      exact ⟨rfl, B5.out⟩
end Go.Proofs.Ytlicihjjbojpcaa
