/-
  The walk of the law FnPlanValues. No conditions but that the bytes that came in can be read.
-/
import Derived.Test.YtmmcdmnmhpbehaaSplI
import Derived.Test.YtmmcdmnmhpbehaaPlnD
import Derived.Test.YtmmcdmnmhpbehaaPlanI
import Derived.Test.YtmmcdmnmhpbehaaPolyLc
namespace Go.Proofs.Ytmmcdmnmhpbehaa
set_option maxRecDepth 4000
open Go.RowKit
theorem planL_at {cs : List (Int × List Int)} {k cn m : Nat} {P : List Int} (hx : cs[k]? = some ((cn : Int), P)) (hm : m < cn) : (planL cs)[(planL (cs.take k)).length + m]? = some (evP P (m : Int)) := by
  have hkl := (List.getElem?_eq_some_iff.1 hx).1
  have e : planL cs = planL (cs.take k) ++ (segV ((cn : Int), P) ++ planL (cs.drop (k + 1))) := by
    conv => lhs; rw [← List.take_append_drop (k + 1) cs]
    unfold planL
    rw [List.flatMap_append, ← List.append_assoc]
    congr 1
    exact planL_snoc cs k _ hx
  rw [e, List.getElem?_append_right (Nat.le_add_right _ _), Nat.add_sub_cancel_left, List.getElem?_append_left (by rw [segV_length]; simpa using hm)]
  unfold segV
  rw [Int.toNat_natCast, vals_get _ _ _ _ hm, Int.zero_add]
theorem planL_next {cs : List (Int × List Int)} {k cn : Nat} {P : List Int} (hx : cs[k]? = some ((cn : Int), P)) : (planL (cs.take (k + 1))).length = (planL (cs.take k)).length + cn := by
  rw [planL_snoc cs k _ hx, List.length_append, segV_length]; simp
theorem planOk_table {cs : List (Int × List Int)} (h : planOk cs = true) : tableOk (planL cs) = true := by
  obtain ⟨h1, h60, hall, _, ht⟩ := planOk_parts h
  have hl := planL_tot cs
  have hg := totN_ge cs (segOk_cnt hall)
  refine (listOk_iff 60 1000000000 _).2 ⟨by omega, by omega, fun x hx => ?_⟩
  unfold planL at hx
  obtain ⟨s, hs, hxs⟩ := List.mem_flatMap.1 hx
  obtain ⟨_, _, _, ht⟩ := segOk_parts (List.all_eq_true.1 hall s hs)
  exact ((listOk_iff 60 1000000000 _).1 ht).2.2 x hxs
theorem ev_seg {cs : List (Int × List Int)} {k cn m : Nat} {P : List Int} (h : planOk cs = true) (hx : cs[k]? = some ((cn : Int), P)) (hm : m < cn) : evA P (m : Int) = evP P (m : Int) := by
  obtain ⟨_, _, hall, _, _⟩ := planOk_parts h
  obtain ⟨p1, p2, p3, _⟩ := segOk_parts (List.all_eq_true.1 hall _ (List.mem_of_getElem? hx))
  have p3' : (cn : Int) ≤ 60 := p3
  exact evA_run P m p1 (by omega)
theorem degM_bd (cs : List (Int × List Int)) (k : Nat) (hk : k ≤ cs.length) : -1 ≤ degM cs k ∧ degM cs k ≤ 100 := by
  induction k with
  | zero => exact ⟨by show (-1 : Int) ≤ -1; omega, by show (-1 : Int) ≤ 100; omega⟩
  | succ k ih =>
    have hx : cs[k]? = some cs[k] := List.getElem?_eq_getElem (by omega)
    rw [degM_next cs k _ hx]
    have := ih (by omega)
    have hd : degL cs[k].2 ≤ 100 := by
      unfold degL
      split
      · split
        · omega
        · rename_i hp _
          have := trimTo_le cs[k].2 cs[k].2.length
          obtain ⟨_, q2, _⟩ := (listOk_iff 7 100000 _).1 hp
          omega
      · omega
    omega
set_option maxHeartbeats 6400000 in
theorem lawPlanValues (a : Option Addr) (len cap : Nat) (w : World) (hc : Came w a len cap) : Calls Try.prog 5 #[.slice a len cap] w (Gives (.bool true) w) := by
  have HC := hidH hc
  have hc1 := hc.lenLe
  have hc2 := hc.capLe
  unfold maxLen at hc2
  by_cases hbig : 1048576 < len
  · go_enter Try.func5, Try.ntmps5
    go_wp2
    go_ret
    exact ⟨rfl, Below.refl _ _⟩
  have hsm : len ≤ 1048576 := by omega
  clear hbig hc
  go_enter Try.func5, Try.ntmps5
  have B0 := hidH (Below.refl w.heap.size w)
  go_wp2_with fail
  refine (drawPlanValues a len cap _ HC.out hsm).mono ?_; rintro e w1 ⟨v, cs, rfl, hz, hl61, hp7, hb⟩
  have B1 := hidH (bThen B0.out hb)
  have s1 := hb.size
  have LZ_1 := hidH hz
  clear hb B0  hz
  have HP7 := hidH hp7
  clear hp7
  obtain ⟨za, zcap, rfl, zc1, zc2⟩ := LZ_1.out.len
  unfold maxLen at zc2
  cases hok : planOk cs
  · have HT := hidH hok
    clear hok
    go_wp2_with fail
    refine (planValues_any _ cs _ _ LZ_1.out (by omega)).mono ?_; rintro e w2 ⟨p, rfl, hr, hb⟩
    rw [HT.out]
    have B2 := hidH (bThen B1.out hb)
    have s2 := hb.size
    have LZ_2 := hidH (LZ_1.out.below hb)
    have P_2 := hidH hr
    clear hb B1 LZ_1 hr
    obtain ⟨pa, pcap, rfl⟩ := P_2.out.some
    go_wp2_with fail
    refine (sPlanValues_any _ cs _ _ LZ_2.out (by omega)).mono ?_; rintro e w3 ⟨q, rfl, hr, hb⟩
    rw [HT.out]
    have B3 := hidH (bThen B2.out hb)
    have s3 := hb.size
    have LZ_3 := hidH (LZ_2.out.below hb)
    have P_3 := hidH (P_2.out.below hb)
    have Q_3 := hidH hr
    clear hb B2 LZ_2 P_2 hr
    obtain ⟨qa, qcap, rfl⟩ := Q_3.out.some
    go_wp2_with fail
    refine (deInts_yes _ _ (planA cs) _ _ _ _ _ P_3.out.lies Q_3.out.lies).mono ?_; rintro e w4 ⟨rfl, hb⟩
    have B4 := hidH (bThen B3.out hb)
    have s4 := hb.size
    have LZ_4 := hidH (LZ_3.out.below hb)
    have P_4 := hidH (P_3.out.below hb)
    have Q_4 := hidH (Q_3.out.below hb)
    clear hb B3 LZ_3 P_3 Q_3
    go_wp2_with fail
    refine (planValid_any _ cs _ _ LZ_4.out (by omega)).mono ?_; rintro e w5 ⟨rfl, hb⟩
    rw [HT.out]
    have B5 := hidH (bThen B4.out hb)
    have s5 := hb.size
    have LZ_5 := hidH (LZ_4.out.below hb)
    have P_5 := hidH (P_4.out.below hb)
    have Q_5 := hidH (Q_4.out.below hb)
    clear hb B4 LZ_4 P_4 Q_4
    go_wp2_with fail
    refine (deInts_yes _ _ (planA cs) _ _ _ _ _ P_5.out.lies Q_5.out.lies).mono ?_; rintro e w6 ⟨rfl, hb⟩
    have B6 := hidH (bThen B5.out hb)
    have s6 := hb.size
    have LZ_6 := hidH (LZ_5.out.below hb)
    have P_6 := hidH (P_5.out.below hb)
    have Q_6 := hidH (Q_5.out.below hb)
    clear hb B5 LZ_5 P_5 Q_5
    go_wp2_with fail
    refine (planValid_any _ cs _ _ LZ_6.out (by omega)).mono ?_; rintro e w7 ⟨rfl, hb⟩
    rw [HT.out]
    have B7 := hidH (bThen B6.out hb)
    have s7 := hb.size
    have LZ_7 := hidH (LZ_6.out.below hb)
    have P_7 := hidH (P_6.out.below hb)
    have Q_7 := hidH (Q_6.out.below hb)
    clear hb B6 LZ_6 P_6 Q_6
    go_wp2_with fail
    go_ret
    exact ⟨rfl, B7.out⟩
  · have HT := hidH hok
    have HPA := hidH (show planA cs = planL cs by unfold planA; rw [hok, if_pos rfl])
    obtain ⟨hq1, hq60, _⟩ := planOk_seg hok
    have HSEG := hidH (planOk_seg hok).2.2
    have HTB := hidH (planOk_table hok)
    have hvl60 : (planL cs).length ≤ 60 := by
      have := (planOk_parts hok).2.2.2.2
      rw [planL_tot]; exact this
    have HEV := hidH (show ∀ (k cn m : Nat) (P : List Int), cs[k]? = some ((cn : Int), P) → m < cn → evA P (m : Int) = evP P (m : Int) from fun k cn m P hx hm => ev_seg hok hx hm)
    have HPL := hidH (show plenA cs = ((planL cs).length : Int) by unfold plenA; rw [hok, if_pos rfl])
    have HPD := hidH (show pdegA cs = degM cs cs.length by unfold pdegA; rw [hok, if_pos rfl])
    clear hok
    go_wp2_with fail
    refine (planValues_any _ cs _ _ LZ_1.out (by omega)).mono ?_; rintro e w2 ⟨p, rfl, hr, hb⟩
    rw [HT.out]
    rw [HPA.out] at hr
    have B2 := hidH (bThen B1.out hb)
    have s2 := hb.size
    have LZ_2 := hidH (LZ_1.out.below hb)
    have P_2 := hidH hr
    clear hb B1 LZ_1 hr
    obtain ⟨pa, pcap, rfl⟩ := P_2.out.some
    go_wp2_with fail
    refine (sPlanValues_any _ cs _ _ LZ_2.out (by omega)).mono ?_; rintro e w3 ⟨q, rfl, hr, hb⟩
    rw [HT.out]
    rw [HPA.out] at hr
    have B3 := hidH (bThen B2.out hb)
    have s3 := hb.size
    have LZ_3 := hidH (LZ_2.out.below hb)
    have P_3 := hidH (P_2.out.below hb)
    have Q_3 := hidH hr
    clear hb B2 LZ_2 P_2 hr
    obtain ⟨qa, qcap, rfl⟩ := Q_3.out.some
    go_wp2_with fail
    refine (deInts_yes _ _ (planL cs) _ _ _ _ _ P_3.out.lies Q_3.out.lies).mono ?_; rintro e w4 ⟨rfl, hb⟩
    have B4 := hidH (bThen B3.out hb)
    have s4 := hb.size
    have LZ_4 := hidH (LZ_3.out.below hb)
    have P_4 := hidH (P_3.out.below hb)
    have Q_4 := hidH (Q_3.out.below hb)
    clear hb B3 LZ_3 P_3 Q_3
    go_wp2_with fail
    refine (planValid_any _ cs _ _ LZ_4.out (by omega)).mono ?_; rintro e w5 ⟨rfl, hb⟩
    rw [HT.out]
    have B5 := hidH (bThen B4.out hb)
    have s5 := hb.size
    have LZ_5 := hidH (LZ_4.out.below hb)
    have P_5 := hidH (P_4.out.below hb)
    have Q_5 := hidH (Q_4.out.below hb)
    clear hb B4 LZ_4 P_4 Q_4
    go_wp2_with fail
    go_loopw [8, 9, 10] (fun x y z wr => ∃ i : Nat, i ≤ cs.length ∧ z = .int .i64 i ∧ x = .int .i64 ((planL (cs.take i)).length : Nat) ∧ y = .int .i64 (degM cs i) ∧ Below w.heap.size w wr ∧ Below w5.heap.size w5 wr) (fun _ _ z _ => cs.length - (intOf z).toNat)
    case atStart => exact ⟨0, Nat.zero_le _, rfl, rfl, rfl, B5.out, Below.refl _ _⟩
    case round =>
      obtain ⟨wo, rfl⟩ : ∃ wo, wo = wr := ⟨wr, rfl⟩
      obtain ⟨i, hi, rfl, hxx, hyy, hb, hb2⟩ := hrel
      have HB := hidH hb
      have HB2 := hidH hb2
      have HZr := hidH (LZ_5.out.below hb2)
      have HPr := hidH (P_5.out.lies.below hb2)
      clear hb hb2
      by_cases hlt : i < cs.length
      · subst hxx hyy
        obtain ⟨b, off, cc1, e, _, _, _, hcl⟩ := HZr.out.addr (by omega)
        injection e with e1 e2 e3
        subst e1; subst e3
        clear e2
        obtain ⟨x, hx⟩ : ∃ x, cs[i]? = some x := ⟨cs[i], List.getElem?_eq_getElem hlt⟩
        obtain ⟨c, ps⟩ := x
        obtain ⟨q1, q2, q3, q4⟩ := HSEG.out c ps (List.mem_of_getElem? hx)
        obtain ⟨cn, rfl⟩ : ∃ cn : Nat, c = (cn : Int) := ⟨c.toNat, by omega⟩
        obtain ⟨u, c0, c1, hl⟩ := hcl i _ _ hx
        obtain ⟨ua, uc, rfl⟩ := hl.some
        have HL := hidH hl
        have HX := hidH hx
        have HC0 := hidH c0
        have HC1 := hidH c1
        have HAT := hidH (fun m (hm : m < cn) => planL_at hx hm)
        have HNX := hidH (planL_next hx)
        have HDG := hidH (degM_next cs i _ hx)
        have hdb := degM_bd cs i (by omega)
        have hle : (planL (cs.take i)).length + cn ≤ 60 := by
          have h := planL_take cs (i + 1)
          rw [planL_next hx] at h
          omega
        generalize hav : (planL (cs.take i)).length = av at *
        generalize degM cs i = dgi at *
        clear hcl hl hx c0 c1 hav
        go_wp2_with fail
        go_loopw [8, 11] (fun x y wx => ∃ m q : Nat, m ≤ cn ∧ Aside (q = av + m) ∧ y = .int .i64 m ∧ x = .int .i64 q ∧ Below wo.heap.size wo wx) (fun _ y _ => cn - (intOf y).toNat)
        case atStart => exact ⟨0, av, Nat.zero_le _, rfl, rfl, rfl, Below.refl _ _⟩
        case round =>
          obtain ⟨wx, rfl⟩ : ∃ wx, wx = wr := ⟨wr, rfl⟩
          obtain ⟨m, q, hm, hq, rfl, rfl, hb⟩ := hrel
          have HQ := hidH hq
          have HBx := hidH hb
          have c0 := (hb.cell (p := ⟨b, off + i * 2, none⟩) (cell_blk _ _ _ HC0.out)).trans HC0.out
          have c1 := (hb.cell (p := ⟨b, off + i * 2 + 1, none⟩) (cell_blk _ _ _ HC1.out)).trans HC1.out
          have HLx := hidH (HL.out.below hb)
          have hpx := HPr.out.below hb
          have hql : q ≤ 60 := by have := HQ.out.out; omega
          clear hq hb
          by_cases hmlt : m < cn
          · have hz := HAT.out m hmlt
            have hev := HEV.out _ _ _ _ HX.out hmlt
            rw [← HQ.out.out] at hz
            have hqlt : q < (planL cs).length := (List.getElem?_eq_some_iff.1 hz).1
            obtain ⟨pb, po, cp2, e, _, _, _, _, _, hpc⟩ := hpx.addr (by omega)
            injection e with e1 e2 e3
            subst e1; subst e3
            clear e2
            have z0 := hpc q _ hz
            have hat := fun W (hb : Below _ _ W) => at_any (.slice ua ps.length uc) ps (m : Int) W _ _ (HLx.out.below hb)
            rw [hev] at hat
            have HATW := hidH hat
            generalize evP ps (m : Int) = zz at *
            clear hz hev hat hpc hpx
            have z0d : wx.drew.cell? ⟨pb, po + q, none⟩ = _ := z0
            have c1d : wx.drew.cell? ⟨b, off + i * 2 + 1, none⟩ = _ := c1
            go_wp2_with fail
            refine wp_region_held_drew (S := fun w' => w'.cell? ⟨pb, po + q, none⟩ = some (.int .i64 zz) ∧ w'.cell? ⟨b, off + i * 2 + 1, none⟩ = some (.slice ua ps.length uc)) (by kernel_rfl) ⟨z0d, c1d⟩ (fun hHeld => ?_)
            try dsimp only
            refine onG 0 (some 75) (v := ?v31_) (by kernel_rfl) (by kernel_rfl) (by kernel_rfl) (fun _ _ _ h => h) (by rfl) hHeld ?hy31_ ?rest31_
            case hy31_ =>
              intro o ho; simp only [List.getElem?_toArray, List.getElem?_cons_zero, Option.some.injEq] at ho; subst ho; intro w hSw; (try dsimp only at hSw)
              go_simp
              try with_reducible rfl
            case rest31_ =>
            try simp only [Act.put, List.setIfInBounds_toArray, List.set_cons_zero, List.set_cons_succ]
            refine onG 1 (some 76) (v := ?v32_) (by kernel_rfl) (by kernel_rfl) (by kernel_rfl) (fun _ _ _ h => h) (by rfl) hHeld ?hy32_ ?rest32_
            case hy32_ =>
              intro o ho; simp only [List.getElem?_toArray, List.getElem?_cons_succ, List.getElem?_cons_zero, Option.some.injEq] at ho; subst ho; intro w hSw; (try dsimp only at hSw)
              go_simp
              try with_reducible rfl
            case rest32_ =>
            try simp only [Act.put, List.setIfInBounds_toArray, List.set_cons_zero, List.set_cons_succ]
            refine onG 2 (some 77) (v := ?v33_) (by kernel_rfl) (by kernel_rfl) (by kernel_rfl) (fun _ _ _ h => h) (by rfl) hHeld ?hy33_ ?rest33_
            case hy33_ =>
              intro o ho; simp only [List.getElem?_toArray, List.getElem?_cons_succ, List.getElem?_cons_zero, Option.some.injEq] at ho; subst ho; intro w hSw; (try dsimp only at hSw)
              go_simp
              try with_reducible rfl
            case rest33_ =>
            try simp only [Act.put, List.setIfInBounds_toArray, List.set_cons_zero, List.set_cons_succ]
            refine onG 3 (some 78) (v := ?v34_) (by kernel_rfl) (by kernel_rfl) (by kernel_rfl) (fun _ _ _ h => h) (by rfl) hHeld ?hy34_ ?rest34_
            case hy34_ =>
              intro o ho; simp only [List.getElem?_toArray, List.getElem?_cons_succ, List.getElem?_cons_zero, Option.some.injEq] at ho; subst ho; intro w hSw; (try dsimp only at hSw)
              go_simp
              try with_reducible rfl
            case rest34_ =>
            try simp only [Act.put, List.setIfInBounds_toArray, List.set_cons_zero, List.set_cons_succ]
            refine onG 4 (some 79) (v := ?v35_) (by kernel_rfl) (by kernel_rfl) (by kernel_rfl) (fun _ _ _ h => h) (by rfl) hHeld ?hy35_ ?rest35_
            case hy35_ =>
              intro o ho; simp only [List.getElem?_toArray, List.getElem?_cons_succ, List.getElem?_cons_zero, Option.some.injEq] at ho; subst ho; intro w hSw; (try dsimp only at hSw)
              go_simp
              try with_reducible rfl
            case rest35_ =>
            try simp only [Act.put, List.setIfInBounds_toArray, List.set_cons_zero, List.set_cons_succ]
            refine onG 5 (some 80) (v := ?v36_) (by kernel_rfl) (by kernel_rfl) (by kernel_rfl) (fun _ _ _ h => h) (by rfl) hHeld ?hy36_ ?rest36_
            case hy36_ =>
              intro o ho; simp only [List.getElem?_toArray, List.getElem?_cons_succ, List.getElem?_cons_zero, Option.some.injEq] at ho; subst ho; intro w hSw; (try dsimp only at hSw)
              go_simp
              try with_reducible rfl
            case rest36_ =>
            try simp only [Act.put, List.setIfInBounds_toArray, List.set_cons_zero, List.set_cons_succ]
            refine onG 6 (some 81) (v := ?v37_) (by kernel_rfl) (by kernel_rfl) (by kernel_rfl) (fun _ _ _ h => h) (by rfl) hHeld ?hy37_ ?rest37_
            case hy37_ =>
              intro o ho; simp only [List.getElem?_toArray, List.getElem?_cons_succ, List.getElem?_cons_zero, Option.some.injEq] at ho; subst ho; intro w hSw; (try dsimp only at hSw)
              go_simp
              try with_reducible rfl
            case rest37_ =>
            try simp only [Act.put, List.setIfInBounds_toArray, List.set_cons_zero, List.set_cons_succ]
            refine onG 7 (some 82) (v := ?v38_) (by kernel_rfl) (by kernel_rfl) (by kernel_rfl) (fun _ _ _ h => h) (by rfl) hHeld ?hy38_ ?rest38_
            case hy38_ =>
              intro o ho; simp only [List.getElem?_toArray, List.getElem?_cons_succ, List.getElem?_cons_zero, Option.some.injEq] at ho; subst ho; intro w hSw; (try dsimp only at hSw)
              go_simp
              try with_reducible rfl
            case rest38_ =>
            try simp only [Act.put, List.setIfInBounds_toArray, List.set_cons_zero, List.set_cons_succ]
            refine onG 8 (some 83) (v := ?v39_) (by kernel_rfl) (by kernel_rfl) (by kernel_rfl) (fun _ _ _ h => h) (by rfl) hHeld ?hy39_ ?rest39_
            case hy39_ =>
              intro o ho; simp only [List.getElem?_toArray, List.getElem?_cons_succ, List.getElem?_cons_zero, Option.some.injEq] at ho; subst ho; intro w hSw; (try dsimp only at hSw)
              go_simp
              try with_reducible rfl
            case rest39_ =>
            try simp only [Act.put, List.setIfInBounds_toArray, List.set_cons_zero, List.set_cons_succ]
            refine onG 9 (some 84) (v := ?v40_) (by kernel_rfl) (by kernel_rfl) (by kernel_rfl) (fun _ _ _ h => h) (by rfl) hHeld ?hy40_ ?rest40_
            case hy40_ =>
              intro o ho; simp only [List.getElem?_toArray, List.getElem?_cons_succ, List.getElem?_cons_zero, Option.some.injEq] at ho; subst ho; intro w hSw; (try dsimp only at hSw)
              go_simp
              try with_reducible rfl
            case rest40_ =>
            try simp only [Act.put, List.setIfInBounds_toArray, List.set_cons_zero, List.set_cons_succ]
            refine callG 10 (by kernel_rfl) ?_
            intro o ho; simp only [List.getElem?_toArray, List.getElem?_cons_succ, List.getElem?_cons_zero, Option.some.injEq] at ho; subst ho; intro K hK
            go_simp
            go_at_call 16
            (with_reducible refine (HATW.out _ ((Below.refl _ wx).drew)).mono ?_)
            rintro e w9 ⟨rfl, hb⟩
            (have HB9 := hidH ((Below.refl wx.heap.size wx).drew.trans (hb.mono (Nat.le_refl _))))
            (have g0 := (hb.cell (p := ⟨pb, po + q, none⟩) (cell_blk _ _ _ z0d)).trans z0d)
            (have g1 := (hb.cell (p := ⟨b, off + i * 2 + 1, none⟩) (cell_blk _ _ _ c1d)).trans c1d)
            (clear hb hHeld)
            go_wp2_with fail
            refine hK.out _ _ ?_ (fun hHeld => ?_)
            · exact ⟨g0, g1⟩
            clear hK K
            try simp only [Act.put, List.setIfInBounds_toArray, List.set_cons_zero, List.set_cons_succ]
            refine onG 11 (some 86) (v := ?v41_) (by kernel_rfl) (by kernel_rfl) (by kernel_rfl) (fun _ _ _ h => h) (by rfl) hHeld ?hy41_ ?rest41_
            case hy41_ =>
              intro o ho; simp only [List.getElem?_toArray, List.getElem?_cons_succ, List.getElem?_cons_zero, Option.some.injEq] at ho; subst ho; intro w hSw; (try dsimp only at hSw)
              go_simp
              try with_reducible rfl
            case rest41_ =>
            try simp only [Act.put, List.setIfInBounds_toArray, List.set_cons_zero, List.set_cons_succ]
            refine wpAnyH_done (by kernel_rfl) ?_ _
            go_wp2_with fail
            go_roundw
            case rel => exact ⟨m + 1, q + 1, by omega, by have := HQ.out.out; show q + 1 = av + (m + 1); omega, by go_num, by go_num, HBx.out.trans (HB9.out.mono HBx.out.size)⟩
            case measure => simp [intOf]; omega
          · obtain rfl : m = cn := by omega
            have HDE := hidH (degree_any (.slice ua ps.length uc) ps _ _ _ HLx.out)
            generalize degL ps = dl at *
            clear hpx
            go_wp2_with fail
            refine HDE.out.mono ?_; rintro e w9 ⟨rfl, hb⟩
            have HB9 := hidH (HBx.out.trans (hb.mono HBx.out.size))
            clear hb
            go_wp2_with fail
            go_roundw
            case rel => exact ⟨i + 1, by omega, by go_num, by rw [HNX.out, ← HQ.out.out], by rw [HDG.out]; congr 1; split <;> omega, HB.out.trans (HB9.out.mono HB.out.size), HB2.out.trans (HB9.out.mono HB2.out.size)⟩
            case measure => simp [intOf]; omega
      · obtain rfl : i = cs.length := by omega
        rw [List.take_length] at hxx
        rw [← HPD.out] at hyy
        subst hxx hyy
        have HLN := hidH (fun W (hb : Below _ _ W) => planLength_any _ cs W _ (HZr.out.below hb) (by omega))
        have HDN := hidH (fun W (hb : Below _ _ W) => planDegree_any _ cs W _ (HZr.out.below hb) (by omega))
        have HTV := hidH (fun W (hb : Below _ _ W) => tableValid_any _ (planL cs) W _ _ (HPr.out.below hb))
        rw [HPL.out] at HLN
        rw [HTB.out] at HTV
        generalize pdegA cs = pd at *
        go_wp2_with fail
        refine (HLN.out _ (Below.refl _ _)).mono ?_; rintro e wa ⟨rfl, hb⟩
        have HBa := hidH hb
        clear hb
        go_wp2_with fail
        refine (HDN.out _ HBa.out).mono ?_; rintro e wb ⟨rfl, hb⟩
        have HBb := hidH (HBa.out.trans (hb.mono HBa.out.size))
        clear hb
        go_wp2_with fail
        refine (HTV.out _ HBb.out).mono ?_; rintro e wc ⟨rfl, hb⟩
        have HBc := hidH (HBb.out.trans (hb.mono HBb.out.size))
        clear hb
        go_wp2_with fail
        go_ret
        exact ⟨rfl, HB.out.trans (HBc.out.mono HB.out.size)⟩
end Go.Proofs.Ytmmcdmnmhpbehaa
