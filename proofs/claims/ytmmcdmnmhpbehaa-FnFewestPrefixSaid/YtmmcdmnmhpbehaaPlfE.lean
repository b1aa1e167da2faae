/-
  The walk of the law FnFewestPrefix. No conditions but that slices fit in memory.
-/
import Derived.Test.YtmmcdmnmhpbehaaPlfD
namespace Go.Proofs.Ytmmcdmnmhpbehaa
set_option maxRecDepth 4000
open Go.RowKit
set_option maxHeartbeats 6400000 in
theorem lawFewestPrefix (a : Option Addr) (len cap : Nat) (a2 : Option Addr) (len2 cap2 : Nat) (w : World) (hc : Came w a len cap) (hcb : Came w a2 len2 cap2) : Calls Try.prog 4 #[.slice a len cap, .slice a2 len2 cap2] w (Gives (.bool true) w) := by
  have HC := hidH hc
  have hc1 := hc.lenLe
  have hc2 := hc.capLe
  unfold maxLen at hc2
  by_cases hbig : 1048576 < len
  · go_enter Try.func4, Try.ntmps4
    go_wp2
    go_ret
    exact ⟨rfl, Below.refl _ _⟩
  have hsm : len ≤ 1048576 := by omega
  clear hbig hc
  have hd1 := hcb.lenLe
  have hd2 := hcb.capLe
  unfold maxLen at hd2
  clear hcb
  by_cases hbig : 1048576 < len2
  · go_enter Try.func4, Try.ntmps4
    go_wp2
    go_ret
    exact ⟨rfl, Below.refl _ _⟩
  have hsm2 : len2 ≤ 1048576 := by omega
  clear hbig
  go_enter Try.func4, Try.ntmps4
  have B0 := hidH (Below.refl w.heap.size w)
  go_wp2_with fail
  refine (drawFewest a len cap _ HC.out hsm).mono ?_; rintro e w1 ⟨v, zs, n, rfl, hz, hl61, hn0, hn1, hb⟩
  have B1 := hidH (bThen B0.out hb)
  have s1 := hb.size
  have LZ_1 := hidH hz
  clear hb B0  hz
  obtain ⟨za, zcap, rfl, zc1, zc2, _⟩ := LZ_1.out
  unfold maxLen at zc2
  cases hv : smallOk zs && degOk n
  · have HT := hidH (fewA_no hv)
    clear hv
    go_wp2_with fail
    refine (fewest_any _ zs n _ _ _ LZ_1.out).mono ?_; rintro e w2 ⟨rfl, hb⟩
    rw [HT.out]
    have B2 := hidH (bThen B1.out hb)
    have s2 := hb.size
    have LZ_2 := hidH (LZ_1.out.below hb)
    clear hb B1 LZ_1
    go_wp2_with fail
    refine (sFewest_any _ zs n _ _ _ LZ_2.out).mono ?_; rintro e w3 ⟨rfl, hb⟩
    rw [HT.out]
    have B3 := hidH (bThen B2.out hb)
    have s3 := hb.size
    have LZ_3 := hidH (LZ_2.out.below hb)
    clear hb B2 LZ_2
    go_wp2_with fail
    refine (sFewest_any _ zs n _ _ _ LZ_3.out).mono ?_; rintro e w4 ⟨rfl, hb⟩
    rw [HT.out]
    have B4 := hidH (bThen B3.out hb)
    have s4 := hb.size
    have LZ_4 := hidH (LZ_3.out.below hb)
    clear hb B3 LZ_3
    go_wp2_with fail
    go_ret
    exact ⟨rfl, B4.out⟩
  · rw [Bool.and_eq_true] at hv
    obtain ⟨hs, hd⟩ := hv
    have hf0 : 0 ≤ fewA zs n ∧ fewA zs n ≤ 60 := by rw [fewA_yes hs hd]; have := few_bd n hs; omega
    obtain ⟨hf0, hf60⟩ := hf0
    have HFG := hidH (fun W lo hi h => fewest_any (.slice za zs.length zcap) zs n W lo hi h)
    have HSG := hidH (fun W lo hi h => sFewest_any (.slice za zs.length zcap) zs n W lo hi h)
    by_cases h2 : zs.length < 2
    · generalize fewA zs n = fw at *
      clear hs hd
      go_wp2_with fail
      refine (HFG.out _ _ _ LZ_1.out).mono ?_; rintro e w2 ⟨rfl, hb⟩
      have B2 := hidH (bThen B1.out hb)
      have s2 := hb.size
      have LZ_2 := hidH (LZ_1.out.below hb)
      clear hb B1 LZ_1
      go_wp2_with fail
      refine (HSG.out _ _ _ LZ_2.out).mono ?_; rintro e w3 ⟨rfl, hb⟩
      have B3 := hidH (bThen B2.out hb)
      have s3 := hb.size
      have LZ_3 := hidH (LZ_2.out.below hb)
      clear hb B2 LZ_2
      go_wp2_with fail
      refine (HSG.out _ _ _ LZ_3.out).mono ?_; rintro e w4 ⟨rfl, hb⟩
      have B4 := hidH (bThen B3.out hb)
      have s4 := hb.size
      have LZ_4 := hidH (LZ_3.out.below hb)
      clear hb B3 LZ_3
      go_wp2_with fail
      go_ret
      exact ⟨rfl, B4.out⟩
    · obtain ⟨r, hr⟩ : ∃ r, r = len2 % (zs.length - 1) := ⟨_, rfl⟩
      have hrl : r < zs.length - 1 := by rw [hr]; exact Nat.mod_lt _ (by omega)
      obtain ⟨L, hL⟩ : ∃ L, L = zs.length - 1 := ⟨_, rfl⟩
      have HLE := hidH hL
      have hmod : (len2 : Int).tmod (L : Int) = (r : Int) := by rw [hr, hL, Int.tmod_eq_emod_of_nonneg (by omega)]; omega
      have hL0 : ((L : Int) == 0) = false := beq_eq_false_iff_ne.2 (by omega)
      have hlL : (zs.length : Int) - 1 = (L : Int) := by omega
      obtain ⟨q, hq⟩ : ∃ q, q = 1 + r := ⟨_, rfl⟩
      have h1r : (1 : Int) + (r : Int) = (q : Int) := by omega
      have hql : q < zs.length := by omega
      have hq1 : 1 ≤ q := by omega
      have hLl : L < zs.length := by omega
      have ⟨p1, p2, p3, p4, p5, p6, p7, p8⟩ := few_parts hs hd (by omega) q hq1 hql
      rw [← hL] at p1
      obtain ⟨zb, zoff, zc, e, _, _, _, _, _, _⟩ := LZ_1.out.addr (by omega)
      injection e with e1 _ e3
      subst e1 e3
      have hqz : (zs.length : Int) - q = ((zs.length - q : Nat) : Int) := by omega
      have hqc : (zcap : Int) - q = ((zcap - q : Nat) : Int) := by omega
      have h1c : (zcap : Int) - 1 = ((zcap - 1 : Nat) : Int) := by omega
      have hc1 : ¬ zcap = 1 := by omega
      have hcq : ¬ zcap = q := by omega
      have HFA := hidH (fun W lo hi h => fewest_any (.slice (some ⟨zb, zoff, none⟩) L zcap) (zs.take L) n W lo hi h)
      have HFB := hidH (fun W lo hi h => fewest_any (.slice (some ⟨zb, zoff + 1, none⟩) (zs.length - 1) (zcap - 1)) (zs.drop 1) n W lo hi h)
      have HFC := hidH (fun W lo hi h => fewest_any (.slice (some ⟨zb, zoff, none⟩) q zcap) (zs.take q) n W lo hi h)
      have HFD := hidH (fun W lo hi h => fewest_any (.slice (some ⟨zb, zoff + q, none⟩) (zs.length - q) (zcap - q)) (zs.drop q) n W lo hi h)
      generalize fewA (zs.take L) n = fa at *
      generalize fewA (zs.drop 1) n = fb at *
      generalize fewA (zs.take q) n = fc at *
      generalize fewA (zs.drop q) n = fd at *
      generalize fewA zs n = fw at *
      clear hs hd hr hq hL
      rcases p1 with p1 | p1 <;> rcases p2 with p2 | p2
      · have b1 : (fa == fw) = true := beq_iff_eq.2 p1
        have b2 : (fb == fw) = true := beq_iff_eq.2 p2
        clear p1 p2
        go_wp2_with fail
        refine (HFG.out _ _ _ LZ_1.out).mono ?_; rintro e w2 ⟨rfl, hb⟩
        have B2 := hidH (bThen B1.out hb)
        have s2 := hb.size
        have LZ_2 := hidH (LZ_1.out.below hb)
        clear hb B1 LZ_1
        go_wp2_with fail
        refine (HSG.out _ _ _ LZ_2.out).mono ?_; rintro e w3 ⟨rfl, hb⟩
        have B3 := hidH (bThen B2.out hb)
        have s3 := hb.size
        have LZ_3 := hidH (LZ_2.out.below hb)
        clear hb B2 LZ_2
        go_wp2_with fail
        refine (HFA.out _ _ _ (LZ_3.out.taken L (by omega))).mono ?_; rintro e w4 ⟨rfl, hb⟩
        have B4 := hidH (bThen B3.out hb)
        have s4 := hb.size
        have LZ_4 := hidH (LZ_3.out.below hb)
        clear hb B3 LZ_3
        go_wp2_with fail
        refine (HFB.out _ _ _ (LZ_4.out.dropped 1 (zs.length - 1) (zcap - 1) (by omega) rfl rfl)).mono ?_; rintro e w5 ⟨rfl, hb⟩
        have B5 := hidH (bThen B4.out hb)
        have s5 := hb.size
        have LZ_5 := hidH (LZ_4.out.below hb)
        clear hb B4 LZ_4
        go_wp2_with fail
        refine (HFC.out _ _ _ (LZ_5.out.taken q (by omega))).mono ?_; rintro e w6 ⟨rfl, hb⟩
        have B6 := hidH (bThen B5.out hb)
        have s6 := hb.size
        have LZ_6 := hidH (LZ_5.out.below hb)
        clear hb B5 LZ_5
        go_wp2_with fail
        refine (HFD.out _ _ _ (LZ_6.out.dropped q (zs.length - q) (zcap - q) (by omega) rfl rfl)).mono ?_; rintro e w7 ⟨rfl, hb⟩
        have B7 := hidH (bThen B6.out hb)
        have s7 := hb.size
        have LZ_7 := hidH (LZ_6.out.below hb)
        clear hb B6 LZ_6
        go_wp2_with fail
        go_ret
        exact ⟨rfl, B7.out⟩
      · have b1 : (fa == fw) = true := beq_iff_eq.2 p1
        have b2 : (fb == fw) = false := beq_eq_false_iff_ne.2 (by omega)
        have b2b : (fb == fw - 1) = true := beq_iff_eq.2 p2
        clear p1 p2
        go_wp2_with fail
        refine (HFG.out _ _ _ LZ_1.out).mono ?_; rintro e w2 ⟨rfl, hb⟩
        have B2 := hidH (bThen B1.out hb)
        have s2 := hb.size
        have LZ_2 := hidH (LZ_1.out.below hb)
        clear hb B1 LZ_1
        go_wp2_with fail
        refine (HSG.out _ _ _ LZ_2.out).mono ?_; rintro e w3 ⟨rfl, hb⟩
        have B3 := hidH (bThen B2.out hb)
        have s3 := hb.size
        have LZ_3 := hidH (LZ_2.out.below hb)
        clear hb B2 LZ_2
        go_wp2_with fail
        refine (HFA.out _ _ _ (LZ_3.out.taken L (by omega))).mono ?_; rintro e w4 ⟨rfl, hb⟩
        have B4 := hidH (bThen B3.out hb)
        have s4 := hb.size
        have LZ_4 := hidH (LZ_3.out.below hb)
        clear hb B3 LZ_3
        go_wp2_with fail
        refine (HFB.out _ _ _ (LZ_4.out.dropped 1 (zs.length - 1) (zcap - 1) (by omega) rfl rfl)).mono ?_; rintro e w5 ⟨rfl, hb⟩
        have B5 := hidH (bThen B4.out hb)
        have s5 := hb.size
        have LZ_5 := hidH (LZ_4.out.below hb)
        clear hb B4 LZ_4
        go_wp2_with fail
        refine (HFC.out _ _ _ (LZ_5.out.taken q (by omega))).mono ?_; rintro e w6 ⟨rfl, hb⟩
        have B6 := hidH (bThen B5.out hb)
        have s6 := hb.size
        have LZ_6 := hidH (LZ_5.out.below hb)
        clear hb B5 LZ_5
        go_wp2_with fail
        refine (HFD.out _ _ _ (LZ_6.out.dropped q (zs.length - q) (zcap - q) (by omega) rfl rfl)).mono ?_; rintro e w7 ⟨rfl, hb⟩
        have B7 := hidH (bThen B6.out hb)
        have s7 := hb.size
        have LZ_7 := hidH (LZ_6.out.below hb)
        clear hb B6 LZ_6
        go_wp2_with fail
        go_ret
        exact ⟨rfl, B7.out⟩
      · have b1 : (fa == fw) = false := beq_eq_false_iff_ne.2 (by omega)
        have b1b : (fa == fw - 1) = true := beq_iff_eq.2 p1
        have b2 : (fb == fw) = true := beq_iff_eq.2 p2
        clear p1 p2
        go_wp2_with fail
        refine (HFG.out _ _ _ LZ_1.out).mono ?_; rintro e w2 ⟨rfl, hb⟩
        have B2 := hidH (bThen B1.out hb)
        have s2 := hb.size
        have LZ_2 := hidH (LZ_1.out.below hb)
        clear hb B1 LZ_1
        go_wp2_with fail
        refine (HSG.out _ _ _ LZ_2.out).mono ?_; rintro e w3 ⟨rfl, hb⟩
        have B3 := hidH (bThen B2.out hb)
        have s3 := hb.size
        have LZ_3 := hidH (LZ_2.out.below hb)
        clear hb B2 LZ_2
        go_wp2_with fail
        refine (HFA.out _ _ _ (LZ_3.out.taken L (by omega))).mono ?_; rintro e w4 ⟨rfl, hb⟩
        have B4 := hidH (bThen B3.out hb)
        have s4 := hb.size
        have LZ_4 := hidH (LZ_3.out.below hb)
        clear hb B3 LZ_3
        go_wp2_with fail
        refine (HFB.out _ _ _ (LZ_4.out.dropped 1 (zs.length - 1) (zcap - 1) (by omega) rfl rfl)).mono ?_; rintro e w5 ⟨rfl, hb⟩
        have B5 := hidH (bThen B4.out hb)
        have s5 := hb.size
        have LZ_5 := hidH (LZ_4.out.below hb)
        clear hb B4 LZ_4
        go_wp2_with fail
        refine (HFC.out _ _ _ (LZ_5.out.taken q (by omega))).mono ?_; rintro e w6 ⟨rfl, hb⟩
        have B6 := hidH (bThen B5.out hb)
        have s6 := hb.size
        have LZ_6 := hidH (LZ_5.out.below hb)
        clear hb B5 LZ_5
        go_wp2_with fail
        refine (HFD.out _ _ _ (LZ_6.out.dropped q (zs.length - q) (zcap - q) (by omega) rfl rfl)).mono ?_; rintro e w7 ⟨rfl, hb⟩
        have B7 := hidH (bThen B6.out hb)
        have s7 := hb.size
        have LZ_7 := hidH (LZ_6.out.below hb)
        clear hb B6 LZ_6
        go_wp2_with fail
        go_ret
        exact ⟨rfl, B7.out⟩
      · have b1 : (fa == fw) = false := beq_eq_false_iff_ne.2 (by omega)
        have b1b : (fa == fw - 1) = true := beq_iff_eq.2 p1
        have b2 : (fb == fw) = false := beq_eq_false_iff_ne.2 (by omega)
        have b2b : (fb == fw - 1) = true := beq_iff_eq.2 p2
        clear p1 p2
        go_wp2_with fail
        refine (HFG.out _ _ _ LZ_1.out).mono ?_; rintro e w2 ⟨rfl, hb⟩
        have B2 := hidH (bThen B1.out hb)
        have s2 := hb.size
        have LZ_2 := hidH (LZ_1.out.below hb)
        clear hb B1 LZ_1
        go_wp2_with fail
        refine (HSG.out _ _ _ LZ_2.out).mono ?_; rintro e w3 ⟨rfl, hb⟩
        have B3 := hidH (bThen B2.out hb)
        have s3 := hb.size
        have LZ_3 := hidH (LZ_2.out.below hb)
        clear hb B2 LZ_2
        go_wp2_with fail
        refine (HFA.out _ _ _ (LZ_3.out.taken L (by omega))).mono ?_; rintro e w4 ⟨rfl, hb⟩
        have B4 := hidH (bThen B3.out hb)
        have s4 := hb.size
        have LZ_4 := hidH (LZ_3.out.below hb)
        clear hb B3 LZ_3
        go_wp2_with fail
        refine (HFB.out _ _ _ (LZ_4.out.dropped 1 (zs.length - 1) (zcap - 1) (by omega) rfl rfl)).mono ?_; rintro e w5 ⟨rfl, hb⟩
        have B5 := hidH (bThen B4.out hb)
        have s5 := hb.size
        have LZ_5 := hidH (LZ_4.out.below hb)
        clear hb B4 LZ_4
        go_wp2_with fail
        refine (HFC.out _ _ _ (LZ_5.out.taken q (by omega))).mono ?_; rintro e w6 ⟨rfl, hb⟩
        have B6 := hidH (bThen B5.out hb)
        have s6 := hb.size
        have LZ_6 := hidH (LZ_5.out.below hb)
        clear hb B5 LZ_5
        go_wp2_with fail
        refine (HFD.out _ _ _ (LZ_6.out.dropped q (zs.length - q) (zcap - q) (by omega) rfl rfl)).mono ?_; rintro e w7 ⟨rfl, hb⟩
        have B7 := hidH (bThen B6.out hb)
        have s7 := hb.size
        have LZ_7 := hidH (LZ_6.out.below hb)
        clear hb B6 LZ_6
        go_wp2_with fail
        go_ret
        exact ⟨rfl, B7.out⟩
end Go.Proofs.Ytmmcdmnmhpbehaa
