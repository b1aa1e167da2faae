/-
  The walk of a law: an engine is parsed from its text, and a text that is parsed is that of the parsed engine. Conditions: the bytes that came in can be read; the library's own variable MaxLen holds some number.
-/
import Derived.Test.YtffmhcahiabicaaDoorEngTb
import Derived.Test.YtffmhcahiabicaaDoorEngDd
import Derived.Test.YtffmhcahiabicaaDoorEngDg
namespace Go.Proofs.YtffmhcahiabicaaDoor
set_option maxRecDepth 4000
set_option linter.unusedVariables false
open Go.RowKit
set_option maxHeartbeats 4000000 in
theorem lawEngineText (a : Option Addr) (len cap : Nat) (a2 : Option Addr) (len2 cap2 : Nat) (w : World) (hc : Came w a len cap) (hc2 : Came w a2 len2 cap2) (hM : MaxE w) : Calls Tryd.prog 6 #[.slice a len cap, .slice a2 len2 cap2] w (Gives (.bool true) w) := by
  by_cases hbig : 1048576 < len
  · clear hc hc2
    go_enter Tryd.func6, Tryd.ntmps6
    go_wp2
    go_ret
    exact ⟨rfl, Below.refl _ _⟩
  by_cases hbig2 : 1048576 < len2
  · clear hc hc2
    go_enter Tryd.func6, Tryd.ntmps6
    go_wp2
    go_ret
    exact ⟨rfl, Below.refl _ _⟩
  have HD := hidH (drawFormatEngine a len cap w hc (by omega))
  have HD2 := hidH fun (W : World) (hb : Below w.heap.size w W) => drawParseEngine a2 len2 cap2 W (came_b hc2 hb) (by omega)
  have HP := hidH fun (W : World) (s : ByteArray) (hs : s.size ≤ 1048576) (hb : Below w.heap.size w W) => parseEngine_any s W hs (hM.below hb)
  clear hc hc2 hM
  go_enter Tryd.func6, Tryd.ntmps6
  go_wp2_with fail
  refine HD.out.mono ?_
  rintro e w1 ⟨v, cs, rfl, hrow, h8, hszs, hb⟩
  have HSZ := hidH (fun c (hc : c ∈ cs) => show c.size ≤ 9223372036854775807 by have := hszs c hc; omega)
  have B_0 := hidH hb
  have V_0 := hidH hrow
  obtain ⟨av, cv, rfl⟩ := hrow.some
  clear hb hrow hszs HD
  have HFI := hidH fun (W : World) lo hi (h : LiesS W lo hi (.slice av cs.length cv) cs) => formatEngine_any _ cs W lo hi h HSZ.out
  have HFS := hidH fun (W : World) lo hi (h : LiesS W lo hi (.slice av cs.length cv) cs) => sFormatEngine_any _ cs W lo hi h HSZ.out
  have HEV := hidH fun (W : World) lo hi (h : LiesS W lo hi (.slice av cs.length cv) cs) => engValid_any _ cs W lo hi h HSZ.out
  have HSM : Hid ((feB cs).size ≤ 91) := hidH (by cases h : engOk cs with | false => rw [feB_no cs h]; exact Nat.zero_le _ | true => exact feB_small cs h)
  have S_0 := hidH (Nat.le_refl w1.heap.size)
  have B_1 := hidH (bMore B_0.out (.cells #[.slice av cs.length cv] 26))
  have S_1 : Hid (w1.heap.size + 1 ≤ (w1.alloc (.cells #[.slice av cs.length cv] 26)).heap.size) := hidH (by simp)
  have V_1 := hidH (V_0.out.below (bNew w1 (.cells #[.slice av cs.length cv] 26)))
  have EE_1 := hidH (EngAt.fresh w1 (.slice av cs.length cv))
  clear B_0 V_0 
  have cE := EE_1.out.cell
  cases hk : engOk cs
  · rw [feB_no cs hk] at HFI HFS
    rw [hk] at HEV
    clear hk
    go_wp2_with fail
    refine (HFI.out _ _ _ V_1.out.lies).mono ?_; rintro e w2 ⟨rfl, hb⟩
    have S_2 := hidH hb.size
    have B_2 := hidH (bThen B_1.out hb)
    have V_2 := hidH (V_1.out.below hb)
    have EE_2 := hidH (EE_1.out.below hb)
    clear cE
    clear hb
    clear B_1 V_1 EE_1
    have cE := EE_2.out.cell
    go_wp2_with fail
    refine (HFS.out _ _ _ V_2.out.lies).mono ?_; rintro e w3 ⟨rfl, hb⟩
    have S_3 := hidH hb.size
    have B_3 := hidH (bThen B_2.out hb)
    have V_3 := hidH (V_2.out.below hb)
    have EE_3 := hidH (EE_2.out.below hb)
    clear cE
    clear hb
    clear B_2 V_2 EE_2
    have cE := EE_3.out.cell
    go_wp2_with fail
    refine (HEV.out _ _ _ V_3.out.lies).mono ?_; rintro e w4 ⟨rfl, hb⟩
    have S_4 := hidH hb.size
    have B_4 := hidH (bThen B_3.out hb)
    have V_4 := hidH (V_3.out.below hb)
    have EE_4 := hidH (EE_3.out.below hb)
    clear cE
    clear hb
    clear B_3 V_3 EE_3
    have cE := EE_4.out.cell
    have HTE := hidH (HD2.out _ B_4.out)
    go_wp2_with fail
    refine HTE.out.mono ?_; rintro e w5 ⟨t, ht, rfl, hb⟩
    have B_5 := hidH (bThen B_4.out hb)
    have V_5 := hidH (V_4.out.below hb)
    have EE_5 := hidH (EE_4.out.below hb)
    clear cE
    clear hb HTE
    clear B_4 V_4 EE_4
    have cE := EE_5.out.cell
    have HPI := hidH fun (W : World) (hb : Below w.heap.size w W) => HP.out W t (by omega) hb
    have HPS := hidH fun (W : World) => sParseEngine_any t W (by omega)
    have HPN := hidH (fun (h : peB t = true) => (show feB (peL t) = t by rw [peL_yes t h]; exact peB_text t h))
    have HPM := hidH (fun (h : peB t = true) c (hc : c ∈ peL t) => show c.size ≤ 9223372036854775807 by rw [peL_yes t h] at hc; have := cutBE_size t c hc; omega)
    have hpl := peL_len t
    generalize peL t = ps at *
    generalize peB t = pb at *
    go_wp2_with fail
    refine (HPI.out _ B_5.out).mono ?_; rintro e w6 ⟨g, rfl, hr, hb⟩
    have S_6 := hidH hb.size
    have B_6 := hidH (bThen B_5.out hb)
    have V_6 := hidH (V_5.out.below hb)
    have EE_6 := hidH (EE_5.out.below hb)
    have G_6 := hidH hr
    clear cE
    clear hb hr
    clear B_5 V_5 EE_5
    have cE := EE_6.out.cell
    obtain ⟨ag, cg, rfl⟩ := G_6.out.some
    have B_7 := hidH (bMore B_6.out (.cells #[.slice ag ps.length cg] 26))
    have S_7 : Hid (w6.heap.size + 1 ≤ (w6.alloc (.cells #[.slice ag ps.length cg] 26)).heap.size) := hidH (by simp)
    have V_7 := hidH (V_6.out.below (bNew w6 (.cells #[.slice ag ps.length cg] 26)))
    have G_7 := hidH (G_6.out.below (bNew w6 (.cells #[.slice ag ps.length cg] 26)))
    have EE_7 := hidH (EE_6.out.below (bNew w6 (.cells #[.slice ag ps.length cg] 26)))
    have EG_7 := hidH (EngAt.fresh w6 (.slice ag ps.length cg))
    clear cE
    clear B_6 V_6 G_6 EE_6
    have cE := EE_7.out.cell
    have cG := EG_7.out.cell
    go_wp2_with fail
    refine (HPS.out _).mono ?_; rintro e w7 ⟨u, rfl, hr, hb⟩
    have S_8 := hidH hb.size
    have B_8 := hidH (bThen B_7.out hb)
    have V_8 := hidH (V_7.out.below hb)
    have G_8 := hidH (G_7.out.below hb)
    have EE_8 := hidH (EE_7.out.below hb)
    have EG_8 := hidH (EG_7.out.below hb)
    have W_8 := hidH hr
    clear cE cG
    clear hb hr
    clear B_7 V_7 G_7 EE_7 EG_7
    have cE := EE_8.out.cell
    have cG := EG_8.out.cell
    obtain ⟨au, cu, rfl⟩ := W_8.out.some
    have B_9 := hidH (bMore B_8.out (.cells #[.slice au ps.length cu] 26))
    have S_9 : Hid (w7.heap.size + 1 ≤ (w7.alloc (.cells #[.slice au ps.length cu] 26)).heap.size) := hidH (by simp)
    have V_9 := hidH (V_8.out.below (bNew w7 (.cells #[.slice au ps.length cu] 26)))
    have G_9 := hidH (G_8.out.below (bNew w7 (.cells #[.slice au ps.length cu] 26)))
    have W_9 := hidH (W_8.out.below (bNew w7 (.cells #[.slice au ps.length cu] 26)))
    have EE_9 := hidH (EE_8.out.below (bNew w7 (.cells #[.slice au ps.length cu] 26)))
    have EG_9 := hidH (EG_8.out.below (bNew w7 (.cells #[.slice au ps.length cu] 26)))
    have EW_9 := hidH (EngAt.fresh w7 (.slice au ps.length cu))
    clear cE cG
    clear B_8 V_8 G_8 W_8 EE_8 EG_8
    have cE := EE_9.out.cell
    have cG := EG_9.out.cell
    have cW := EW_9.out.cell
    go_wp2_with fail
    refine (deSame_yes _ _ ps _ _ _ _ _ G_9.out.lies W_9.out.lies hpl).mono ?_; rintro e w8 ⟨rfl, hb⟩
    have S_10 := hidH hb.size
    have B_10 := hidH (bThen B_9.out hb)
    have V_10 := hidH (V_9.out.below hb)
    have G_10 := hidH (G_9.out.below hb)
    have W_10 := hidH (W_9.out.below hb)
    have EE_10 := hidH (EE_9.out.below hb)
    have EG_10 := hidH (EG_9.out.below hb)
    have EW_10 := hidH (EW_9.out.below hb)
    clear cE cG cW
    clear hb
    clear B_9 V_9 G_9 W_9 EE_9 EG_9 EW_9
    have cE := EE_10.out.cell
    have cG := EG_10.out.cell
    have cW := EW_10.out.cell
    clear HP HD2
    cases pb
    · go_wp2
      go_ret
      exact ⟨rfl, B_10.out⟩
    · have HFG := hidH fun (W : World) lo hi (h : LiesS W lo hi (.slice ag ps.length cg) ps) => formatEngine_any _ ps W lo hi h (HPM.out rfl)
      rw [HPN.out rfl] at HFG
      go_wp2_with fail
      refine (HFG.out _ _ _ G_10.out.lies).mono ?_; rintro e w9 ⟨rfl, hb⟩
      have S_11 := hidH hb.size
      have B_11 := hidH (bThen B_10.out hb)
      have V_11 := hidH (V_10.out.below hb)
      have G_11 := hidH (G_10.out.below hb)
      have W_11 := hidH (W_10.out.below hb)
      have EE_11 := hidH (EE_10.out.below hb)
      have EG_11 := hidH (EG_10.out.below hb)
      have EW_11 := hidH (EW_10.out.below hb)
      clear cE cG cW
      clear hb
      clear B_10 V_10 G_10 W_10 EE_10 EG_10 EW_10
      have cE := EE_11.out.cell
      have cG := EG_11.out.cell
      have cW := EW_11.out.cell
      go_wp2
      go_ret
      exact ⟨rfl, B_11.out⟩
  · have hem := emptyE_no _ (feB_pos cs hk)
    obtain ⟨hq1, hq2⟩ := pe_text cs hk
    rw [hk] at HEV
    have HPF := hidH fun (W : World) (hb : Below w.heap.size w W) => HP.out W (feB cs) (by have := HSM.out; omega) hb
    rw [hq1, hq2] at HPF
    clear hk hq1 hq2
    generalize feB cs = fe at *
    go_wp2_with fail
    refine (HFI.out _ _ _ V_1.out.lies).mono ?_; rintro e w2 ⟨rfl, hb⟩
    have S_2 := hidH hb.size
    have B_2 := hidH (bThen B_1.out hb)
    have V_2 := hidH (V_1.out.below hb)
    have EE_2 := hidH (EE_1.out.below hb)
    clear cE
    clear hb
    clear B_1 V_1 EE_1
    have cE := EE_2.out.cell
    go_wp2_with fail
    refine (HFS.out _ _ _ V_2.out.lies).mono ?_; rintro e w3 ⟨rfl, hb⟩
    have S_3 := hidH hb.size
    have B_3 := hidH (bThen B_2.out hb)
    have V_3 := hidH (V_2.out.below hb)
    have EE_3 := hidH (EE_2.out.below hb)
    clear cE
    clear hb
    clear B_2 V_2 EE_2
    have cE := EE_3.out.cell
    go_wp2_with fail
    refine (HEV.out _ _ _ V_3.out.lies).mono ?_; rintro e w4 ⟨rfl, hb⟩
    have S_4 := hidH hb.size
    have B_4 := hidH (bThen B_3.out hb)
    have V_4 := hidH (V_3.out.below hb)
    have EE_4 := hidH (EE_3.out.below hb)
    clear cE
    clear hb
    clear B_3 V_3 EE_3
    have cE := EE_4.out.cell
    go_wp2_with fail
    refine (HPF.out _ B_4.out).mono ?_; rintro e w5 ⟨p, rfl, hr, hb⟩
    have S_5 := hidH hb.size
    have B_5 := hidH (bThen B_4.out hb)
    have V_5 := hidH (V_4.out.below hb)
    have EE_5 := hidH (EE_4.out.below hb)
    have P_5 := hidH hr
    clear cE
    clear hb hr
    clear B_4 V_4 EE_4
    have cE := EE_5.out.cell
    obtain ⟨ap, cp, rfl⟩ := P_5.out.some
    have B_6 := hidH (bMore B_5.out (.cells #[.slice ap cs.length cp] 26))
    have S_6 : Hid (w5.heap.size + 1 ≤ (w5.alloc (.cells #[.slice ap cs.length cp] 26)).heap.size) := hidH (by simp)
    have V_6 := hidH (V_5.out.below (bNew w5 (.cells #[.slice ap cs.length cp] 26)))
    have P_6 := hidH (P_5.out.below (bNew w5 (.cells #[.slice ap cs.length cp] 26)))
    have EE_6 := hidH (EE_5.out.below (bNew w5 (.cells #[.slice ap cs.length cp] 26)))
    have EP_6 := hidH (EngAt.fresh w5 (.slice ap cs.length cp))
    clear cE
    clear B_5 V_5 P_5 EE_5
    have cE := EE_6.out.cell
    have cP := EP_6.out.cell
    go_wp2_with fail
    refine (deSame_yes _ _ cs _ _ _ _ _ P_6.out.lies V_6.out.lies (by omega)).mono ?_; rintro e w6 ⟨rfl, hb⟩
    have S_7 := hidH hb.size
    have B_7 := hidH (bThen B_6.out hb)
    have V_7 := hidH (V_6.out.below hb)
    have P_7 := hidH (P_6.out.below hb)
    have EE_7 := hidH (EE_6.out.below hb)
    have EP_7 := hidH (EP_6.out.below hb)
    clear cE cP
    clear hb
    clear B_6 V_6 P_6 EE_6 EP_6
    have cE := EE_7.out.cell
    have cP := EP_7.out.cell
    clear hem
    have HTE := hidH (HD2.out _ B_7.out)
    go_wp2_with fail
    refine HTE.out.mono ?_; rintro e w7 ⟨t, ht, rfl, hb⟩
    have B_8 := hidH (bThen B_7.out hb)
    have V_8 := hidH (V_7.out.below hb)
    have P_8 := hidH (P_7.out.below hb)
    have EE_8 := hidH (EE_7.out.below hb)
    have EP_8 := hidH (EP_7.out.below hb)
    clear cE cP
    clear hb HTE
    clear B_7 V_7 P_7 EE_7 EP_7
    have cE := EE_8.out.cell
    have cP := EP_8.out.cell
    have HPI := hidH fun (W : World) (hb : Below w.heap.size w W) => HP.out W t (by omega) hb
    have HPS := hidH fun (W : World) => sParseEngine_any t W (by omega)
    have HPN := hidH (fun (h : peB t = true) => (show feB (peL t) = t by rw [peL_yes t h]; exact peB_text t h))
    have HPM := hidH (fun (h : peB t = true) c (hc : c ∈ peL t) => show c.size ≤ 9223372036854775807 by rw [peL_yes t h] at hc; have := cutBE_size t c hc; omega)
    have hpl := peL_len t
    generalize peL t = ps at *
    generalize peB t = pb at *
    go_wp2_with fail
    refine (HPI.out _ B_8.out).mono ?_; rintro e w8 ⟨g, rfl, hr, hb⟩
    have S_9 := hidH hb.size
    have B_9 := hidH (bThen B_8.out hb)
    have V_9 := hidH (V_8.out.below hb)
    have P_9 := hidH (P_8.out.below hb)
    have EE_9 := hidH (EE_8.out.below hb)
    have EP_9 := hidH (EP_8.out.below hb)
    have G_9 := hidH hr
    clear cE cP
    clear hb hr
    clear B_8 V_8 P_8 EE_8 EP_8
    have cE := EE_9.out.cell
    have cP := EP_9.out.cell
    obtain ⟨ag, cg, rfl⟩ := G_9.out.some
    have B_10 := hidH (bMore B_9.out (.cells #[.slice ag ps.length cg] 26))
    have S_10 : Hid (w8.heap.size + 1 ≤ (w8.alloc (.cells #[.slice ag ps.length cg] 26)).heap.size) := hidH (by simp)
    have V_10 := hidH (V_9.out.below (bNew w8 (.cells #[.slice ag ps.length cg] 26)))
    have P_10 := hidH (P_9.out.below (bNew w8 (.cells #[.slice ag ps.length cg] 26)))
    have G_10 := hidH (G_9.out.below (bNew w8 (.cells #[.slice ag ps.length cg] 26)))
    have EE_10 := hidH (EE_9.out.below (bNew w8 (.cells #[.slice ag ps.length cg] 26)))
    have EP_10 := hidH (EP_9.out.below (bNew w8 (.cells #[.slice ag ps.length cg] 26)))
    have EG_10 := hidH (EngAt.fresh w8 (.slice ag ps.length cg))
    clear cE cP
    clear B_9 V_9 P_9 G_9 EE_9 EP_9
    have cE := EE_10.out.cell
    have cP := EP_10.out.cell
    have cG := EG_10.out.cell
    go_wp2_with fail
    refine (HPS.out _).mono ?_; rintro e w9 ⟨u, rfl, hr, hb⟩
    have S_11 := hidH hb.size
    have B_11 := hidH (bThen B_10.out hb)
    have V_11 := hidH (V_10.out.below hb)
    have P_11 := hidH (P_10.out.below hb)
    have G_11 := hidH (G_10.out.below hb)
    have EE_11 := hidH (EE_10.out.below hb)
    have EP_11 := hidH (EP_10.out.below hb)
    have EG_11 := hidH (EG_10.out.below hb)
    have W_11 := hidH hr
    clear cE cP cG
    clear hb hr
    clear B_10 V_10 P_10 G_10 EE_10 EP_10 EG_10
    have cE := EE_11.out.cell
    have cP := EP_11.out.cell
    have cG := EG_11.out.cell
    obtain ⟨au, cu, rfl⟩ := W_11.out.some
    have B_12 := hidH (bMore B_11.out (.cells #[.slice au ps.length cu] 26))
    have S_12 : Hid (w9.heap.size + 1 ≤ (w9.alloc (.cells #[.slice au ps.length cu] 26)).heap.size) := hidH (by simp)
    have V_12 := hidH (V_11.out.below (bNew w9 (.cells #[.slice au ps.length cu] 26)))
    have P_12 := hidH (P_11.out.below (bNew w9 (.cells #[.slice au ps.length cu] 26)))
    have G_12 := hidH (G_11.out.below (bNew w9 (.cells #[.slice au ps.length cu] 26)))
    have W_12 := hidH (W_11.out.below (bNew w9 (.cells #[.slice au ps.length cu] 26)))
    have EE_12 := hidH (EE_11.out.below (bNew w9 (.cells #[.slice au ps.length cu] 26)))
    have EP_12 := hidH (EP_11.out.below (bNew w9 (.cells #[.slice au ps.length cu] 26)))
    have EG_12 := hidH (EG_11.out.below (bNew w9 (.cells #[.slice au ps.length cu] 26)))
    have EW_12 := hidH (EngAt.fresh w9 (.slice au ps.length cu))
    clear cE cP cG
    clear B_11 V_11 P_11 G_11 W_11 EE_11 EP_11 EG_11
    have cE := EE_12.out.cell
    have cP := EP_12.out.cell
    have cG := EG_12.out.cell
    have cW := EW_12.out.cell
    go_wp2_with fail
    refine (deSame_yes _ _ ps _ _ _ _ _ G_12.out.lies W_12.out.lies hpl).mono ?_; rintro e w10 ⟨rfl, hb⟩
    have S_13 := hidH hb.size
    have B_13 := hidH (bThen B_12.out hb)
    have V_13 := hidH (V_12.out.below hb)
    have P_13 := hidH (P_12.out.below hb)
    have G_13 := hidH (G_12.out.below hb)
    have W_13 := hidH (W_12.out.below hb)
    have EE_13 := hidH (EE_12.out.below hb)
    have EP_13 := hidH (EP_12.out.below hb)
    have EG_13 := hidH (EG_12.out.below hb)
    have EW_13 := hidH (EW_12.out.below hb)
    clear cE cP cG cW
    clear hb
    clear B_12 V_12 P_12 G_12 W_12 EE_12 EP_12 EG_12 EW_12
    have cE := EE_13.out.cell
    have cP := EP_13.out.cell
    have cG := EG_13.out.cell
    have cW := EW_13.out.cell
    clear HP HD2
    cases pb
    · go_wp2
      go_ret
      exact ⟨rfl, B_13.out⟩
    · have HFG := hidH fun (W : World) lo hi (h : LiesS W lo hi (.slice ag ps.length cg) ps) => formatEngine_any _ ps W lo hi h (HPM.out rfl)
      rw [HPN.out rfl] at HFG
      go_wp2_with fail
      refine (HFG.out _ _ _ G_13.out.lies).mono ?_; rintro e w11 ⟨rfl, hb⟩
      have S_14 := hidH hb.size
      have B_14 := hidH (bThen B_13.out hb)
      have V_14 := hidH (V_13.out.below hb)
      have P_14 := hidH (P_13.out.below hb)
      have G_14 := hidH (G_13.out.below hb)
      have W_14 := hidH (W_13.out.below hb)
      have EE_14 := hidH (EE_13.out.below hb)
      have EP_14 := hidH (EP_13.out.below hb)
      have EG_14 := hidH (EG_13.out.below hb)
      have EW_14 := hidH (EW_13.out.below hb)
      clear cE cP cG cW
      clear hb
      clear B_13 V_13 P_13 G_13 W_13 EE_13 EP_13 EG_13 EW_13
      have cE := EE_14.out.cell
      have cP := EP_14.out.cell
      have cG := EG_14.out.cell
      have cW := EW_14.out.cell
      go_wp2
      go_ret
      exact ⟨rfl, B_14.out⟩
end Go.Proofs.YtffmhcahiabicaaDoor
