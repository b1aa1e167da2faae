/-
  The walks of two laws: an engine that is set up holds the differences of the polynomial at the argument and shows its value; an engine is set up again from the polynomial that it holds. Condition: the bytes that came in can be read.
-/
import Derived.Test.YtffmhcahiabicaaDoorEngMc
import Derived.Test.YtffmhcahiabicaaDoorEngDd
import Derived.Test.YtffmhcahiabicaaDoorEngDg
import Derived.Test.YtffmhcahiabicaaDoorDeFns
namespace Go.Proofs.YtffmhcahiabicaaDoor
set_option maxRecDepth 4000
set_option linter.unusedVariables false
open Go.RowKit
theorem atE_any (v : Value) (zs : List Int) (n : Int) (w : World) (lo hi : Nat) (hv : Lies w lo hi v zs) : Calls Tryd.prog 32 #[v, .int .i64 n] w (Gives (.int .i64 (evA zs n)) w) := by
  have HI := hidH (evalPoly_any v zs n w lo hi hv)
  clear hv
  go_enter Tryd.func32, Tryd.ntmps32
  go_wp2_with fail
  refine HI.out.mono ?_; rintro e w1 ⟨rfl, hb⟩
  have HB := hidH hb
  generalize evA zs n = x at *
  generalize evB zs n = y at *
  clear hb
  go_wp2_with fail
  go_ret
  exact ⟨rfl, HB.out⟩
set_option maxHeartbeats 4000000 in
theorem lawSetUpRead (a : Option Addr) (len cap : Nat) (w : World) (hc : Came w a len cap) : Calls Tryd.prog 7 #[.slice a len cap] w (Gives (.bool true) w) := by
  by_cases hbig : 1048576 < len
  · clear hc
    go_enter Tryd.func7, Tryd.ntmps7
    go_wp2
    go_ret
    exact ⟨rfl, Below.refl _ _⟩
  have HD := hidH (drawSetUp a len cap w hc (by omega))
  clear hc
  go_enter Tryd.func7, Tryd.ntmps7
  go_wp2_with fail
  refine HD.out.mono ?_
  rintro e w1 ⟨v, zs, n, wi, rfl, hrow, h8, hb⟩
  have B_0 := hidH hb
  have V_0 := hidH hrow
  obtain ⟨av, cv, hv, _⟩ := hrow
  subst hv
  clear hb HD
  have HIM := hidH fun (W : World) lo hi (h : Lies W lo hi (.slice av zs.length cv) zs) => setUp_any _ zs n wi W lo hi h
  have HSP := hidH fun (W : World) lo hi (h : Lies W lo hi (.slice av zs.length cv) zs) => sSetUp_any _ zs n wi W lo hi h
  have HSH := hidH fun (W : World) lo hi (h : Lies W lo hi (.slice av zs.length cv) zs) => shift_any _ zs n W lo hi h
  have HAT := hidH fun (W : World) lo hi (h : Lies W lo hi (.slice av zs.length cv) zs) => atE_any _ zs n W lo hi h
  have hxl := setL_len zs n wi
  have HG := hidH (set_good zs n wi)
  generalize hxs : setL zs n wi = xs at *
  generalize hxb : setB zs n wi = xb at *
  have S_0 := hidH (Nat.le_refl w1.heap.size)
  go_wp2_with fail
  refine (HIM.out _ _ _ V_0.out.lies).mono ?_; rintro e w2 ⟨xv, rfl, hr, hb⟩
  have S_1 := hidH hb.size
  have B_1 := hidH (bThen B_0.out hb)
  have V_1 := hidH (V_0.out.below hb)
  have X_1 := hidH hr
  clear hb hr
  clear B_0 V_0 
  obtain ⟨ax, cx, rfl⟩ := X_1.out.some
  have B_2 := hidH (bMore B_1.out (.cells #[.slice ax xs.length cx] 26))
  have S_2 : Hid (w2.heap.size + 1 ≤ (w2.alloc (.cells #[.slice ax xs.length cx] 26)).heap.size) := hidH (by simp)
  have V_2 := hidH (V_1.out.below (bNew w2 (.cells #[.slice ax xs.length cx] 26)))
  have X_2 := hidH (X_1.out.below (bNew w2 (.cells #[.slice ax xs.length cx] 26)))
  have EX_2 := hidH (EngAt.fresh w2 (.slice ax xs.length cx))
  clear B_1 V_1 X_1 
  have cX := EX_2.out.cell
  go_wp2_with fail
  refine (HSP.out _ _ _ V_2.out.lies).mono ?_; rintro e w3 ⟨u, rfl, hr, hb⟩
  have S_3 := hidH hb.size
  have B_3 := hidH (bThen B_2.out hb)
  have V_3 := hidH (V_2.out.below hb)
  have X_3 := hidH (X_2.out.below hb)
  have EX_3 := hidH (EX_2.out.below hb)
  have W_3 := hidH hr
  clear cX
  clear hb hr
  clear B_2 V_2 X_2 EX_2
  have cX := EX_3.out.cell
  obtain ⟨au, cu, rfl⟩ := W_3.out.some
  have B_4 := hidH (bMore B_3.out (.cells #[.slice au xs.length cu] 26))
  have S_4 : Hid (w3.heap.size + 1 ≤ (w3.alloc (.cells #[.slice au xs.length cu] 26)).heap.size) := hidH (by simp)
  have V_4 := hidH (V_3.out.below (bNew w3 (.cells #[.slice au xs.length cu] 26)))
  have X_4 := hidH (X_3.out.below (bNew w3 (.cells #[.slice au xs.length cu] 26)))
  have W_4 := hidH (W_3.out.below (bNew w3 (.cells #[.slice au xs.length cu] 26)))
  have EX_4 := hidH (EX_3.out.below (bNew w3 (.cells #[.slice au xs.length cu] 26)))
  have EW_4 := hidH (EngAt.fresh w3 (.slice au xs.length cu))
  clear cX
  clear B_3 V_3 X_3 W_3 EX_3
  have cX := EX_4.out.cell
  have cW := EW_4.out.cell
  go_wp2_with fail
  refine (deSame_yes _ _ xs _ _ _ _ _ X_4.out.lies W_4.out.lies hxl).mono ?_; rintro e w4 ⟨rfl, hb⟩
  have S_5 := hidH hb.size
  have B_5 := hidH (bThen B_4.out hb)
  have V_5 := hidH (V_4.out.below hb)
  have X_5 := hidH (X_4.out.below hb)
  have W_5 := hidH (W_4.out.below hb)
  have EX_5 := hidH (EX_4.out.below hb)
  have EW_5 := hidH (EW_4.out.below hb)
  clear cX cW
  clear hb
  clear B_4 V_4 X_4 W_4 EX_4 EW_4
  have cX := EX_5.out.cell
  have cW := EW_5.out.cell
  cases xb
  · go_wp2_with fail
    refine (deSame_yes _ _ xs _ _ _ _ _ X_5.out.lies W_5.out.lies hxl).mono ?_; rintro e w5 ⟨rfl, hb⟩
    have S_6 := hidH hb.size
    have B_6 := hidH (bThen B_5.out hb)
    have V_6 := hidH (V_5.out.below hb)
    have X_6 := hidH (X_5.out.below hb)
    have W_6 := hidH (W_5.out.below hb)
    have EX_6 := hidH (EX_5.out.below hb)
    have EW_6 := hidH (EW_5.out.below hb)
    clear cX cW
    clear hb
    clear B_5 V_5 X_5 W_5 EX_5 EW_5
    have cX := EX_6.out.cell
    have cW := EW_6.out.cell
    go_wp2
    go_ret
    exact ⟨rfl, B_6.out⟩
  · obtain ⟨hsb, hk, hsg, hrl, hrb, hlen, hra⟩ := HG.out rfl
    have HXM := hidH (fun c (hc : c ∈ xs) => show c.size ≤ 9223372036854775807 by have := (eng_sizes xs hk).2.2 c hc; omega)
    have HRX := hidH fun (W : World) lo hi (h : LiesS W lo hi (.slice ax xs.length cx) xs) => readEngine_any _ xs W lo hi h HXM.out
    rw [hrl, hrb] at HRX
    have HRS := hidH fun (W : World) lo hi (h : LiesS W lo hi (.slice ax xs.length cx) xs) => resultOf_any _ xs W lo hi h HXM.out
    rw [hra] at HRS
    have HEV := hidH fun (W : World) lo hi (h : LiesS W lo hi (.slice ax xs.length cx) xs) => engValid_is true _ xs hk W lo hi h HXM.out
    rw [hsb] at HSH
    have hle : ((xs.length : Int) == (zs.length : Int)) = true := by rw [hlen]; exact beq_self_eq_true _
    generalize shiftA zs n = qs at *
    generalize evA zs n = ev at *
    clear HG hsg hrl hrb hra hxs hxb hlen hsb hk
    go_wp2_with fail
    refine (HRX.out _ _ _ X_5.out.lies).mono ?_; rintro e w5 ⟨va, rfl, hr, hb⟩
    have S_6 := hidH hb.size
    have B_6 := hidH (bThen B_5.out hb)
    have V_6 := hidH (V_5.out.below hb)
    have X_6 := hidH (X_5.out.below hb)
    have W_6 := hidH (W_5.out.below hb)
    have EX_6 := hidH (EX_5.out.below hb)
    have EW_6 := hidH (EW_5.out.below hb)
    have A_6 := hidH hr
    clear cX cW
    clear hb hr
    clear B_5 V_5 X_5 W_5 EX_5 EW_5
    have cX := EX_6.out.cell
    have cW := EW_6.out.cell
    obtain ⟨aa, ca, hva, _⟩ := A_6.out
    subst hva
    go_wp2_with fail
    refine (HSH.out _ _ _ V_6.out.lies).mono ?_; rintro e w6 ⟨vb, rfl, hr, hb⟩
    have S_7 := hidH hb.size
    have B_7 := hidH (bThen B_6.out hb)
    have V_7 := hidH (V_6.out.below hb)
    have X_7 := hidH (X_6.out.below hb)
    have W_7 := hidH (W_6.out.below hb)
    have A_7 := hidH (A_6.out.below hb)
    have EX_7 := hidH (EX_6.out.below hb)
    have EW_7 := hidH (EW_6.out.below hb)
    have C_7 := hidH hr
    clear cX cW
    clear hb hr
    clear B_6 V_6 X_6 W_6 A_6 EX_6 EW_6
    have cX := EX_7.out.cell
    have cW := EW_7.out.cell
    obtain ⟨ab, cb, hvb, _⟩ := C_7.out
    subst hvb
    go_wp2_with fail
    refine (HRS.out _ _ _ X_7.out.lies).mono ?_; rintro e w7 ⟨rfl, hb⟩
    have S_8 := hidH hb.size
    have B_8 := hidH (bThen B_7.out hb)
    have V_8 := hidH (V_7.out.below hb)
    have X_8 := hidH (X_7.out.below hb)
    have W_8 := hidH (W_7.out.below hb)
    have A_8 := hidH (A_7.out.below hb)
    have C_8 := hidH (C_7.out.below hb)
    have EX_8 := hidH (EX_7.out.below hb)
    have EW_8 := hidH (EW_7.out.below hb)
    clear cX cW
    clear hb
    clear B_7 V_7 X_7 W_7 A_7 C_7 EX_7 EW_7
    have cX := EX_8.out.cell
    have cW := EW_8.out.cell
    go_wp2_with fail
    refine (deInts_yes _ _ qs _ _ _ _ _ A_8.out.lies C_8.out.lies).mono ?_; rintro e w8 ⟨rfl, hb⟩
    have S_9 := hidH hb.size
    have B_9 := hidH (bThen B_8.out hb)
    have V_9 := hidH (V_8.out.below hb)
    have X_9 := hidH (X_8.out.below hb)
    have W_9 := hidH (W_8.out.below hb)
    have A_9 := hidH (A_8.out.below hb)
    have C_9 := hidH (C_8.out.below hb)
    have EX_9 := hidH (EX_8.out.below hb)
    have EW_9 := hidH (EW_8.out.below hb)
    clear cX cW
    clear hb
    clear B_8 V_8 X_8 W_8 A_8 C_8 EX_8 EW_8
    have cX := EX_9.out.cell
    have cW := EW_9.out.cell
    go_wp2_with fail
    refine (HAT.out _ _ _ V_9.out.lies).mono ?_; rintro e w9 ⟨rfl, hb⟩
    have S_10 := hidH hb.size
    have B_10 := hidH (bThen B_9.out hb)
    have V_10 := hidH (V_9.out.below hb)
    have X_10 := hidH (X_9.out.below hb)
    have W_10 := hidH (W_9.out.below hb)
    have A_10 := hidH (A_9.out.below hb)
    have C_10 := hidH (C_9.out.below hb)
    have EX_10 := hidH (EX_9.out.below hb)
    have EW_10 := hidH (EW_9.out.below hb)
    clear cX cW
    clear hb
    clear B_9 V_9 X_9 W_9 A_9 C_9 EX_9 EW_9
    have cX := EX_10.out.cell
    have cW := EW_10.out.cell
    go_wp2_with fail
    refine (HEV.out _ _ _ X_10.out.lies).mono ?_; rintro e w10 ⟨rfl, hb⟩
    have S_11 := hidH hb.size
    have B_11 := hidH (bThen B_10.out hb)
    have V_11 := hidH (V_10.out.below hb)
    have X_11 := hidH (X_10.out.below hb)
    have W_11 := hidH (W_10.out.below hb)
    have A_11 := hidH (A_10.out.below hb)
    have C_11 := hidH (C_10.out.below hb)
    have EX_11 := hidH (EX_10.out.below hb)
    have EW_11 := hidH (EW_10.out.below hb)
    clear cX cW
    clear hb
    clear B_10 V_10 X_10 W_10 A_10 C_10 EX_10 EW_10
    have cX := EX_11.out.cell
    have cW := EW_11.out.cell
    go_wp2
    go_ret
    exact ⟨rfl, B_11.out⟩
set_option maxHeartbeats 4000000 in
theorem lawReadSetUp (a : Option Addr) (len cap : Nat) (w : World) (hc : Came w a len cap) : Calls Tryd.prog 8 #[.slice a len cap] w (Gives (.bool true) w) := by
  by_cases hbig : 1048576 < len
  · clear hc
    go_enter Tryd.func8, Tryd.ntmps8
    go_wp2
    go_ret
    exact ⟨rfl, Below.refl _ _⟩
  have HD := hidH (drawReadEngine a len cap w hc (by omega))
  clear hc
  go_enter Tryd.func8, Tryd.ntmps8
  go_wp2_with fail
  refine HD.out.mono ?_
  rintro e w1 ⟨v, cs, rfl, hrow, h8, hszs, hb⟩
  have HSZ := hidH (fun c (hc : c ∈ cs) => show c.size ≤ 9223372036854775807 by have := hszs c hc; omega)
  have B_0 := hidH hb
  have V_0 := hidH hrow
  obtain ⟨av, cv, rfl⟩ := hrow.some
  clear hb hrow hszs HD
  have HIM := hidH fun (W : World) lo hi (h : LiesS W lo hi (.slice av cs.length cv) cs) => readEngine_any _ cs W lo hi h HSZ.out
  have HSP := hidH fun (W : World) lo hi (h : LiesS W lo hi (.slice av cs.length cv) cs) => sReadEngine_any _ cs W lo hi h HSZ.out
  have HG := hidH (again_good cs)
  have hrl := readL_len cs
  generalize hra : readL cs = ra at *
  generalize hrb : readB cs = rb at *
  have S_0 := hidH (Nat.le_refl w1.heap.size)
  have B_1 := hidH (bMore B_0.out (.cells #[.slice av cs.length cv] 26))
  have S_1 : Hid (w1.heap.size + 1 ≤ (w1.alloc (.cells #[.slice av cs.length cv] 26)).heap.size) := hidH (by simp)
  have V_1 := hidH (V_0.out.below (bNew w1 (.cells #[.slice av cs.length cv] 26)))
  have EE_1 := hidH (EngAt.fresh w1 (.slice av cs.length cv))
  clear B_0 V_0 
  have cE := EE_1.out.cell
  go_wp2_with fail
  refine (HIM.out _ _ _ V_1.out.lies).mono ?_; rintro e w2 ⟨va, rfl, hr, hb⟩
  have S_2 := hidH hb.size
  have B_2 := hidH (bThen B_1.out hb)
  have V_2 := hidH (V_1.out.below hb)
  have EE_2 := hidH (EE_1.out.below hb)
  have A_2 := hidH hr
  clear cE
  clear hb hr
  clear B_1 V_1 EE_1
  have cE := EE_2.out.cell
  obtain ⟨aa, ca, hva, _⟩ := A_2.out
  subst hva
  go_wp2_with fail
  refine (HSP.out _ _ _ V_2.out.lies).mono ?_; rintro e w3 ⟨vb, rfl, hr, hb⟩
  have S_3 := hidH hb.size
  have B_3 := hidH (bThen B_2.out hb)
  have V_3 := hidH (V_2.out.below hb)
  have A_3 := hidH (A_2.out.below hb)
  have EE_3 := hidH (EE_2.out.below hb)
  have C_3 := hidH hr
  clear cE
  clear hb hr
  clear B_2 V_2 A_2 EE_2
  have cE := EE_3.out.cell
  obtain ⟨ab, cb, hvb, _⟩ := C_3.out
  subst hvb
  go_wp2_with fail
  refine (deInts_yes _ _ ra _ _ _ _ _ A_3.out.lies C_3.out.lies).mono ?_; rintro e w4 ⟨rfl, hb⟩
  have S_4 := hidH hb.size
  have B_4 := hidH (bThen B_3.out hb)
  have V_4 := hidH (V_3.out.below hb)
  have A_4 := hidH (A_3.out.below hb)
  have C_4 := hidH (C_3.out.below hb)
  have EE_4 := hidH (EE_3.out.below hb)
  clear cE
  clear hb
  clear B_3 V_3 A_3 C_3 EE_3
  have cE := EE_4.out.cell
  cases rb
  · go_wp2_with fail
    refine (deInts_yes _ _ ra _ _ _ _ _ A_4.out.lies C_4.out.lies).mono ?_; rintro e w5 ⟨rfl, hb⟩
    have S_5 := hidH hb.size
    have B_5 := hidH (bThen B_4.out hb)
    have V_5 := hidH (V_4.out.below hb)
    have A_5 := hidH (A_4.out.below hb)
    have C_5 := hidH (C_4.out.below hb)
    have EE_5 := hidH (EE_4.out.below hb)
    clear cE
    clear hb
    clear B_4 V_4 A_4 C_4 EE_4
    have cE := EE_5.out.cell
    go_wp2
    go_ret
    exact ⟨rfl, B_5.out⟩
  · obtain ⟨hk, hrs, hsl, hsb⟩ := HG.out rfl
    have hs1 := (eng_sizes cs hk).1
    have hhd := (eng_sizes cs hk).2.2 _ (List.mem_of_getElem? (head_at cs (by omega)))
    have HSU := hidH fun (W : World) lo hi (h : Lies W lo hi (.slice aa ra.length ca) ra) => setUp_any _ ra 0 ((cs.headD ⟨#[]⟩).size : Int) W lo hi h
    have hrs2 : ra = sgnL cs := hrs
    rw [hrs2, hsl, hsb, ← hrs2] at HSU
    obtain ⟨bv, cv2, hve, hvc, hvm, hvl, hvh, hvb⟩ := V_4.out.blk (by omega)
    have c0 := (hvb.2 0 _ (head_at cs (by omega))).1
    injection hve with q1 q2 q3
    subst q1
    subst q3
    have hi0 : (0 : Int) < (cs.length : Int) := by omega
    have hi1 : 0 < cs.length := by omega
    generalize cs.headD ⟨#[]⟩ = hd at *
    clear HG hrs hrs2 hsl hsb hvb hra hrb
    go_wp2_with fail
    refine (HSU.out _ _ _ A_4.out.lies).mono ?_; rintro e w5 ⟨kv, rfl, hr, hb⟩
    have S_5 := hidH hb.size
    have B_5 := hidH (bThen B_4.out hb)
    have V_5 := hidH (V_4.out.below hb)
    have A_5 := hidH (A_4.out.below hb)
    have C_5 := hidH (C_4.out.below hb)
    have EE_5 := hidH (EE_4.out.below hb)
    have K_5 := hidH hr
    clear cE
    clear hb hr
    clear B_4 V_4 A_4 C_4 EE_4
    have cE := EE_5.out.cell
    clear c0
    obtain ⟨ak, ck, rfl⟩ := K_5.out.some
    have B_6 := hidH (bMore B_5.out (.cells #[.slice ak cs.length ck] 26))
    have S_6 : Hid (w5.heap.size + 1 ≤ (w5.alloc (.cells #[.slice ak cs.length ck] 26)).heap.size) := hidH (by simp)
    have V_6 := hidH (V_5.out.below (bNew w5 (.cells #[.slice ak cs.length ck] 26)))
    have A_6 := hidH (A_5.out.below (bNew w5 (.cells #[.slice ak cs.length ck] 26)))
    have C_6 := hidH (C_5.out.below (bNew w5 (.cells #[.slice ak cs.length ck] 26)))
    have K_6 := hidH (K_5.out.below (bNew w5 (.cells #[.slice ak cs.length ck] 26)))
    have EE_6 := hidH (EE_5.out.below (bNew w5 (.cells #[.slice ak cs.length ck] 26)))
    have EK_6 := hidH (EngAt.fresh w5 (.slice ak cs.length ck))
    clear cE
    clear B_5 V_5 A_5 C_5 K_5 EE_5
    have cE := EE_6.out.cell
    have cK := EK_6.out.cell
    go_wp2_with fail
    refine (deSame_yes _ _ cs _ _ _ _ _ K_6.out.lies V_6.out.lies (by omega)).mono ?_; rintro e w6 ⟨rfl, hb⟩
    have S_7 := hidH hb.size
    have B_7 := hidH (bThen B_6.out hb)
    have V_7 := hidH (V_6.out.below hb)
    have A_7 := hidH (A_6.out.below hb)
    have C_7 := hidH (C_6.out.below hb)
    have K_7 := hidH (K_6.out.below hb)
    have EE_7 := hidH (EE_6.out.below hb)
    have EK_7 := hidH (EK_6.out.below hb)
    clear cE cK
    clear hb
    clear B_6 V_6 A_6 C_6 K_6 EE_6 EK_6
    have cE := EE_7.out.cell
    have cK := EK_7.out.cell
    go_wp2
    go_ret
    exact ⟨rfl, B_7.out⟩
end Go.Proofs.YtffmhcahiabicaaDoor
