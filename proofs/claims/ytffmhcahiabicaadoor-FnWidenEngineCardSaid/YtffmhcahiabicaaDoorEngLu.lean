/-
  The walk of a law: an engine of another width holds the same polynomial, and can be given its own width again. Condition: the bytes that came in can be read.
-/
import Derived.Test.YtffmhcahiabicaaDoorEngMb
import Derived.Test.YtffmhcahiabicaaDoorEngDd
import Derived.Test.YtffmhcahiabicaaDoorEngDg
import Derived.Test.YtffmhcahiabicaaDoorDeFns
import Derived.Deep.RegionWith
import Derived.Deep.DeepCutAuto
namespace Go.Proofs.YtffmhcahiabicaaDoor
set_option maxRecDepth 4000
set_option linter.unusedVariables false
open Go.RowKit
set_option maxHeartbeats 4000000 in
theorem lawWidenEngine (a : Option Addr) (len cap : Nat) (w : World) (hc : Came w a len cap) : Calls Tryd.prog 9 #[.slice a len cap] w (Gives (.bool true) w) := by
  by_cases hbig : 1048576 < len
  · clear hc
    go_enter Tryd.func9, Tryd.ntmps9
    go_wp2
    go_ret
    exact ⟨rfl, Below.refl _ _⟩
  have HD := hidH (drawWidenEngine a len cap w hc (by omega))
  clear hc
  go_enter Tryd.func9, Tryd.ntmps9
  go_wp2_with fail
  refine HD.out.mono ?_
  rintro e w1 ⟨v, cs, n, rfl, hrow, h8, hszs, hb⟩
  have HSZ := hidH (fun c (hc : c ∈ cs) => show c.size ≤ 9223372036854775807 by have := hszs c hc; omega)
  have B_0 := hidH hb
  have V_0 := hidH hrow
  obtain ⟨av, cv, rfl⟩ := hrow.some
  clear hb hrow hszs HD
  have HIM := hidH fun (W : World) lo hi (h : LiesS W lo hi (.slice av cs.length cv) cs) => widenEngine_any _ cs n W lo hi h HSZ.out
  have HSP := hidH fun (W : World) lo hi (h : LiesS W lo hi (.slice av cs.length cv) cs) => sWidenEngine_any _ cs n W lo hi h HSZ.out
  have hxl := widL_len cs n
  have HG := hidH (wid_good cs n)
  have HRD := hidH fun (W : World) lo hi (h : LiesS W lo hi (.slice av cs.length cv) cs) => readEngine_any _ cs W lo hi h HSZ.out
  generalize hxs : widL cs n = xs at *
  generalize hxb : widB cs n = xb at *
  have S_0 := hidH (Nat.le_refl w1.heap.size)
  have B_1 := hidH (bMore B_0.out (.cells #[.slice av cs.length cv] 26))
  have S_1 : Hid (w1.heap.size + 1 ≤ (w1.alloc (.cells #[.slice av cs.length cv] 26)).heap.size) := hidH (by simp)
  have V_1 := hidH (V_0.out.below (bNew w1 (.cells #[.slice av cs.length cv] 26)))
  have EE_1 := hidH (EngAt.fresh w1 (.slice av cs.length cv))
  clear B_0 V_0 
  have cE := EE_1.out.cell
  go_wp2_with fail
  refine (HIM.out _ _ _ V_1.out.lies).mono ?_; rintro e w2 ⟨xv, rfl, hr, hb⟩
  have S_2 := hidH hb.size
  have B_2 := hidH (bThen B_1.out hb)
  have V_2 := hidH (V_1.out.below hb)
  have EE_2 := hidH (EE_1.out.below hb)
  have X_2 := hidH hr
  clear cE
  clear hb hr
  clear B_1 V_1 EE_1
  have cE := EE_2.out.cell
  obtain ⟨ax, cx, rfl⟩ := X_2.out.some
  have B_3 := hidH (bMore B_2.out (.cells #[.slice ax xs.length cx] 26))
  have S_3 : Hid (w2.heap.size + 1 ≤ (w2.alloc (.cells #[.slice ax xs.length cx] 26)).heap.size) := hidH (by simp)
  have V_3 := hidH (V_2.out.below (bNew w2 (.cells #[.slice ax xs.length cx] 26)))
  have X_3 := hidH (X_2.out.below (bNew w2 (.cells #[.slice ax xs.length cx] 26)))
  have EE_3 := hidH (EE_2.out.below (bNew w2 (.cells #[.slice ax xs.length cx] 26)))
  have EX_3 := hidH (EngAt.fresh w2 (.slice ax xs.length cx))
  clear cE
  clear B_2 V_2 X_2 EE_2
  have cE := EE_3.out.cell
  have cX := EX_3.out.cell
  go_wp2_with fail
  refine (HSP.out _ _ _ V_3.out.lies).mono ?_; rintro e w3 ⟨u, rfl, hr, hb⟩
  have S_4 := hidH hb.size
  have B_4 := hidH (bThen B_3.out hb)
  have V_4 := hidH (V_3.out.below hb)
  have X_4 := hidH (X_3.out.below hb)
  have EE_4 := hidH (EE_3.out.below hb)
  have EX_4 := hidH (EX_3.out.below hb)
  have W_4 := hidH hr
  clear cE cX
  clear hb hr
  clear B_3 V_3 X_3 EE_3 EX_3
  have cE := EE_4.out.cell
  have cX := EX_4.out.cell
  obtain ⟨au, cu, rfl⟩ := W_4.out.some
  have B_5 := hidH (bMore B_4.out (.cells #[.slice au xs.length cu] 26))
  have S_5 : Hid (w3.heap.size + 1 ≤ (w3.alloc (.cells #[.slice au xs.length cu] 26)).heap.size) := hidH (by simp)
  have V_5 := hidH (V_4.out.below (bNew w3 (.cells #[.slice au xs.length cu] 26)))
  have X_5 := hidH (X_4.out.below (bNew w3 (.cells #[.slice au xs.length cu] 26)))
  have W_5 := hidH (W_4.out.below (bNew w3 (.cells #[.slice au xs.length cu] 26)))
  have EE_5 := hidH (EE_4.out.below (bNew w3 (.cells #[.slice au xs.length cu] 26)))
  have EX_5 := hidH (EX_4.out.below (bNew w3 (.cells #[.slice au xs.length cu] 26)))
  have EW_5 := hidH (EngAt.fresh w3 (.slice au xs.length cu))
  clear cE cX
  clear B_4 V_4 X_4 W_4 EE_4 EX_4
  have cE := EE_5.out.cell
  have cX := EX_5.out.cell
  have cW := EW_5.out.cell
  go_wp2_with fail
  refine (deSame_yes _ _ xs _ _ _ _ _ X_5.out.lies W_5.out.lies hxl).mono ?_; rintro e w4 ⟨rfl, hb⟩
  have S_6 := hidH hb.size
  have B_6 := hidH (bThen B_5.out hb)
  have V_6 := hidH (V_5.out.below hb)
  have X_6 := hidH (X_5.out.below hb)
  have W_6 := hidH (W_5.out.below hb)
  have EE_6 := hidH (EE_5.out.below hb)
  have EX_6 := hidH (EX_5.out.below hb)
  have EW_6 := hidH (EW_5.out.below hb)
  clear cE cX cW
  clear hb
  clear B_5 V_5 X_5 W_5 EE_5 EX_5 EW_5
  have cE := EE_6.out.cell
  have cX := EX_6.out.cell
  have cW := EW_6.out.cell
  cases xb
  · go_wp2_with fail
    refine (deSame_yes _ _ xs _ _ _ _ _ X_6.out.lies W_6.out.lies hxl).mono ?_; rintro e w5 ⟨rfl, hb⟩
    have S_7 := hidH hb.size
    have B_7 := hidH (bThen B_6.out hb)
    have V_7 := hidH (V_6.out.below hb)
    have X_7 := hidH (X_6.out.below hb)
    have W_7 := hidH (W_6.out.below hb)
    have EE_7 := hidH (EE_6.out.below hb)
    have EX_7 := hidH (EX_6.out.below hb)
    have EW_7 := hidH (EW_6.out.below hb)
    clear cE cX cW
    clear hb
    clear B_6 V_6 X_6 W_6 EE_6 EX_6 EW_6
    have cE := EE_7.out.cell
    have cX := EX_7.out.cell
    have cW := EW_7.out.cell
    go_wp2
    go_ret
    exact ⟨rfl, B_7.out⟩
  · obtain ⟨hk, hkx, hsg, hlen, hbk, hbb⟩ := HG.out rfl
    obtain ⟨hr1, hr2⟩ := read_same xs cs hkx hk hsg
    have hs1 := (eng_sizes cs hk).1
    have HXM := hidH (fun c (hc : c ∈ xs) => show c.size ≤ 9223372036854775807 by have := (eng_sizes xs hkx).2.2 c hc; omega)
    have HBW := hidH fun (W : World) lo hi (h : LiesS W lo hi (.slice ax xs.length cx) xs) => widenEngine_any _ xs ((cs.headD ⟨#[]⟩).size : Int) W lo hi h HXM.out
    rw [hbk, hbb] at HBW
    have HRX := hidH fun (W : World) lo hi (h : LiesS W lo hi (.slice ax xs.length cx) xs) => readEngine_any _ xs W lo hi h HXM.out
    rw [hr1, hr2] at HRX
    have hrl := readL_len cs
    have hhd := (eng_sizes cs hk).2.2 _ (List.mem_of_getElem? (head_at cs (by omega)))
    obtain ⟨bv, cv2, hve, hvc, hvm, hvl, hvh, hvb⟩ := V_6.out.blk (by omega)
    have c0 := (hvb.2 0 _ (head_at cs (by omega))).1
    injection hve with q1 q2 q3
    subst q1
    subst q3
    have hi0 : (0 : Int) < (cs.length : Int) := by omega
    have hi1 : 0 < cs.length := by omega
    generalize readL cs = ra at *
    generalize readB cs = rb at *
    generalize cs.headD ⟨#[]⟩ = hd at *
    clear HG hr1 hr2 hsg hbk hbb hvb hxs hxb hlen
    have B_c := hidH (Nat.le_refl w4.heap.size)
    have XL := hidH X_6.out.lies
    have XA := hidH (X_6.out.lies.below (bNew w4 (.cells #[.slice none 0 0] 26)))
    have EN := hidH (EngAt.fresh w4 (.slice none 0 0))
    have SN := hidH (show (w4.alloc (.cells #[.slice none 0 0] 26)).heap.size = w4.heap.size + 1 by simp)
    have eE := (EE_6.out.alloc (.cells #[.slice none 0 0] 26)).cell
    have eX := (EX_6.out.alloc (.cells #[.slice none 0 0] 26)).cell
    have eW := (EW_6.out.alloc (.cells #[.slice none 0 0] 26)).cell
    have c0a := cell_allocS _ _ (.cells #[.slice none 0 0] 26) c0
    go_wp2_with fail
    go_cut [9, 10] from 56 (fun s9 s10 wx => ∃ (kb : Nat) (ak : Option Addr) (ck : Nat), s9 = .pointer (some ⟨kb, 0, none⟩) ∧ s10 = .bool true ∧ w4.heap.size ≤ kb ∧ EngAt wx kb (.slice ak cs.length ck) ∧ RowS wx w4.heap.size wx.heap.size (.slice ak cs.length ck) cs ∧ Below w4.heap.size w4 wx)
    case first =>
      go_region_with (first
        | (go_at_call 36; (with_reducible refine (HBW.out _ _ _ (XL.out.below (Below.refl _ _).drew)).mono ?_); rintro e wq ⟨kv, rfl, hr, hb⟩; (have BQ := hidH (bDrew' hb)); (have RQ := hidH hr); (obtain ⟨ak, ck, hkv⟩ := hr.some); subst hkv; (have HQ : Hid (EngAt (wq.alloc (.cells #[.slice ak cs.length ck] 26)) wq.heap.size (.slice ak cs.length ck)) := hidH (EngAt.fresh _ _)); (have dE := (EE_6.out.below BQ.out).cell); (have dEa := ((EE_6.out.below BQ.out).alloc (.cells #[.slice none 0 0] 26)).cell); (have dX := (EX_6.out.below BQ.out).cell); (have dXa := ((EX_6.out.below BQ.out).alloc (.cells #[.slice none 0 0] 26)).cell); (have dW := (EW_6.out.below BQ.out).cell); (have dWa := ((EW_6.out.below BQ.out).alloc (.cells #[.slice none 0 0] 26)).cell); clear hr hb)
        | (go_at_call 36; (with_reducible refine (HBW.out _ _ _ (XA.out.below (Below.refl _ _).drew)).mono ?_); rintro e wp ⟨kv, rfl, hr, hb⟩; (have BP := hidH (bDrew' hb)); (have RP := hidH hr); (obtain ⟨ak, ck, hkv⟩ := hr.some); subst hkv; (have HP := hidH (EN.out.below BP.out)); (have cP := HP.out.cell); (have fP := HP.out.free 0); clear hr hb))
      all_goals
        go_wp2_with fail
        go_meet
        first
          | exact ⟨_, _, _, rfl, rfl, BQ.out.size, HQ.out, (RQ.out.below (bNew wq (.cells #[.slice ak cs.length ck] 26))).mono (Nat.le_refl _) (by simp), BQ.out.alloc BQ.out.size _⟩
          | exact ⟨_, _, _, rfl, rfl, Nat.le_refl _, HP.out.put _, (RP.out.apart (Apart.of_onto (lo := w4.heap.size) (hi := w4.heap.size + 1) (Onto.setCell w4.heap.size 0 wp (.slice ak cs.length ck)) (Nat.le_refl _) (Nat.lt_succ_self _)) (.inr (by simp))).mono (by simp) (by simp), ((bNew w4 (.cells #[.slice none 0 0] 26)).trans (BP.out.mono (by simp))).setCell (Nat.le_refl _) _⟩
    case rest =>
      obtain ⟨kb, ak, ck, rfl, rfl, hkb, hEK, hRK, hBK⟩ := hcut
      clear c0 c0a XL XA EN SN B_c eE eX eW
      have B_7 := hidH (bThen B_6.out hBK)
      have S_7 := hidH hBK.size
      have V_7 := hidH (V_6.out.below hBK)
      have X_7 := hidH (X_6.out.below hBK)
      have W_7 := hidH (W_6.out.below hBK)
      have EE_7 := hidH (EE_6.out.below hBK)
      have EX_7 := hidH (EX_6.out.below hBK)
      have EW_7 := hidH (EW_6.out.below hBK)
      have K_7 := hidH hRK
      have EK_7 := hidH hEK
      clear cE cX cW
      clear hEK hRK hBK
      clear B_6 V_6 X_6 W_6 EE_6 EX_6 EW_6
      have cE := EE_7.out.cell
      have cX := EX_7.out.cell
      have cW := EW_7.out.cell
      have cK := EK_7.out.cell
      go_wp2_with fail
      refine (HRD.out _ _ _ V_7.out.lies).mono ?_; rintro e w5 ⟨va, rfl, hr, hb⟩
      have S_8 := hidH hb.size
      have B_8 := hidH (bThen B_7.out hb)
      have V_8 := hidH (V_7.out.below hb)
      have X_8 := hidH (X_7.out.below hb)
      have W_8 := hidH (W_7.out.below hb)
      have K_8 := hidH (K_7.out.below hb)
      have EE_8 := hidH (EE_7.out.below hb)
      have EX_8 := hidH (EX_7.out.below hb)
      have EW_8 := hidH (EW_7.out.below hb)
      have EK_8 := hidH (EK_7.out.below hb)
      have A_8 := hidH hr
      clear cE cX cW cK
      clear hb hr
      clear B_7 V_7 X_7 W_7 K_7 EE_7 EX_7 EW_7 EK_7
      have cE := EE_8.out.cell
      have cX := EX_8.out.cell
      have cW := EW_8.out.cell
      have cK := EK_8.out.cell
      obtain ⟨aa, ca, hva, _⟩ := A_8.out
      subst hva
      go_wp2_with fail
      refine (HRX.out _ _ _ X_8.out.lies).mono ?_; rintro e w6 ⟨vb, rfl, hr, hb⟩
      have S_9 := hidH hb.size
      have B_9 := hidH (bThen B_8.out hb)
      have V_9 := hidH (V_8.out.below hb)
      have X_9 := hidH (X_8.out.below hb)
      have W_9 := hidH (W_8.out.below hb)
      have K_9 := hidH (K_8.out.below hb)
      have A_9 := hidH (A_8.out.below hb)
      have EE_9 := hidH (EE_8.out.below hb)
      have EX_9 := hidH (EX_8.out.below hb)
      have EW_9 := hidH (EW_8.out.below hb)
      have EK_9 := hidH (EK_8.out.below hb)
      have C_9 := hidH hr
      clear cE cX cW cK
      clear hb hr
      clear B_8 V_8 X_8 W_8 K_8 A_8 EE_8 EX_8 EW_8 EK_8
      have cE := EE_9.out.cell
      have cX := EX_9.out.cell
      have cW := EW_9.out.cell
      have cK := EK_9.out.cell
      obtain ⟨ab, cb, hvb, _⟩ := C_9.out
      subst hvb
      go_wp2_with fail
      refine (deSame_yes _ _ cs _ _ _ _ _ K_9.out.lies V_9.out.lies (by omega)).mono ?_; rintro e w7 ⟨rfl, hb⟩
      have S_10 := hidH hb.size
      have B_10 := hidH (bThen B_9.out hb)
      have V_10 := hidH (V_9.out.below hb)
      have X_10 := hidH (X_9.out.below hb)
      have W_10 := hidH (W_9.out.below hb)
      have K_10 := hidH (K_9.out.below hb)
      have A_10 := hidH (A_9.out.below hb)
      have C_10 := hidH (C_9.out.below hb)
      have EE_10 := hidH (EE_9.out.below hb)
      have EX_10 := hidH (EX_9.out.below hb)
      have EW_10 := hidH (EW_9.out.below hb)
      have EK_10 := hidH (EK_9.out.below hb)
      clear cE cX cW cK
      clear hb
      clear B_9 V_9 X_9 W_9 K_9 A_9 C_9 EE_9 EX_9 EW_9 EK_9
      have cE := EE_10.out.cell
      have cX := EX_10.out.cell
      have cW := EW_10.out.cell
      have cK := EK_10.out.cell
      go_wp2_with fail
      refine (deInts_yes _ _ ra _ _ _ _ _ A_10.out.lies C_10.out.lies).mono ?_; rintro e w8 ⟨rfl, hb⟩
      have S_11 := hidH hb.size
      have B_11 := hidH (bThen B_10.out hb)
      have V_11 := hidH (V_10.out.below hb)
      have X_11 := hidH (X_10.out.below hb)
      have W_11 := hidH (W_10.out.below hb)
      have K_11 := hidH (K_10.out.below hb)
      have A_11 := hidH (A_10.out.below hb)
      have C_11 := hidH (C_10.out.below hb)
      have EE_11 := hidH (EE_10.out.below hb)
      have EX_11 := hidH (EX_10.out.below hb)
      have EW_11 := hidH (EW_10.out.below hb)
      have EK_11 := hidH (EK_10.out.below hb)
      clear cE cX cW cK
      clear hb
      clear B_10 V_10 X_10 W_10 K_10 A_10 C_10 EE_10 EX_10 EW_10 EK_10
      have cE := EE_11.out.cell
      have cX := EX_11.out.cell
      have cW := EW_11.out.cell
      have cK := EK_11.out.cell
      go_wp2
      go_ret
      exact ⟨rfl, B_11.out⟩
end Go.Proofs.YtffmhcahiabicaaDoor
