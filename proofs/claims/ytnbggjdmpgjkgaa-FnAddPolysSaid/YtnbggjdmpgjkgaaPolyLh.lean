/-
  The walk of a law: the values of a sum are the sums of values, those of a multiple the multiples, and subtracting restores the polynomial. No conditions but that the bytes that came in can be read.
-/
import Derived.Test.YtnbggjdmpgjkgaaKitR
import Derived.Test.YtnbggjdmpgjkgaaDeFns
import Derived.Test.YtnbggjdmpgjkgaaPolyLc
import Derived.Test.YtnbggjdmpgjkgaaPolyD
import Derived.Test.YtnbggjdmpgjkgaaPolyFf
namespace Go.Proofs.Ytnbggjdmpgjkgaa
open Go.RowKit
theorem ev_head (n : Int) (p : List Int) (k : Nat) : ev n p k = p.getD 0 0 * chN n k + ev n p.tail (k + 1) := by
  cases p with
  | nil => simp [ev]
  | cons x p => simp [ev]
theorem addL_cons (zs ys : List Int) (M : Nat) : addL zs ys (M + 1) = (zs.getD 0 0 + ys.getD 0 0) :: addL zs.tail ys.tail M := by
  unfold addL
  rw [List.range_succ_eq_map, List.map_cons, List.map_map]
  congr 1
  refine List.map_congr_left fun i _ => ?_
  simp only [Function.comp]
  cases zs <;> cases ys <;> simp
theorem ev_addL (n : Int) (zs ys : List Int) (M k : Nat) (hz : zs.length ≤ M) (hy : ys.length ≤ M) : ev n (addL zs ys M) k = ev n zs k + ev n ys k := by
  induction M generalizing zs ys k with
  | zero =>
    obtain rfl : zs = [] := List.eq_nil_of_length_eq_zero (by omega)
    obtain rfl : ys = [] := List.eq_nil_of_length_eq_zero (by omega)
    rfl
  | succ M ih =>
    rw [addL_cons, ev, ih _ _ _ (by rw [List.length_tail]; omega) (by rw [List.length_tail]; omega), ev_head n zs k, ev_head n ys k, Int.add_mul]
    omega
theorem ev_scale (n c : Int) (ys : List Int) (k : Nat) : ev n (scaleL ys c) k = c * ev n ys k := by
  induction ys generalizing k with
  | nil => simp [scaleL, ev]
  | cons y ys ih =>
    have := ih (k + 1)
    unfold scaleL at this ⊢
    rw [List.map_cons, ev, ev, this, Int.mul_add, Int.mul_assoc]
theorem neg_ok (ys : List Int) (h : polyOk ys = true) : polyOk (scaleL ys (-1)) = true := by
  have ⟨h1, h2, h3⟩ := (listOk_iff _ _ _).1 h
  refine (listOk_iff _ _ _).2 ⟨by rw [scaleL_length]; exact h1, by rw [scaleL_length]; exact h2, fun x hx => ?_⟩
  obtain ⟨y, hy, rfl⟩ := List.mem_map.1 hx
  have := h3 y hy
  omega
theorem pad_ok (zs : List Int) (M : Nat) (h : polyOk zs = true) (hl : zs.length ≤ M) (hM : M ≤ 7) : polyOk (padL zs M) = true := by
  have ⟨h1, h2, h3⟩ := (listOk_iff _ _ _).1 h
  refine (listOk_iff _ _ _).2 ⟨by rw [padL_length _ _ hl]; omega, by rw [padL_length _ _ hl]; omega, fun x hx => ?_⟩
  rcases List.mem_append.1 hx with hx | hx
  · exact h3 x hx
  · have := List.eq_of_mem_replicate hx
    omega
theorem sub_back (zs ys : List Int) (M : Nat) (hz : zs.length ≤ M) : addL (addL zs ys M) (scaleL ys (-1)) M = padL zs M := by
  refine list_ext (by rw [addL_length, padL_length _ _ hz]) fun i x y hx hyy => ?_
  have hi : i < M := by have := (List.getElem?_eq_some_iff.1 hx).1; rwa [addL_length] at this
  rw [addL_get _ _ _ _ hi] at hx
  rw [padL_get _ _ _ hz hi] at hyy
  injection hx with hx
  injection hyy with hyy
  rw [← hx, ← hyy, getD_at _ _ _ (addL_get zs ys M i hi)]
  have e : (scaleL ys (-1)).getD i 0 = -1 * ys.getD i 0 := by
    unfold scaleL
    rw [List.getD_eq_getElem?_getD, List.getD_eq_getElem?_getD, List.getElem?_map]
    cases ys[i]? <;> simp
  rw [e]
  omega
theorem trimTo_pad (zs : List Int) (M : Nat) (h1 : 1 ≤ zs.length) (hl : zs.length ≤ M) : ∀ n, n ≤ M → zs.length ≤ n → trimTo (padL zs M) n = trimTo zs zs.length := by
  have low : ∀ n, n ≤ zs.length → trimTo (padL zs M) n = trimTo zs n := fun n => by
    induction n with
    | zero => intro _; rfl
    | succ n ih =>
      intro hn
      cases n with
      | zero => rfl
      | succ n =>
        rw [trimTo, trimTo, ih (by omega), getD_at _ _ _ (padL_get zs M (n + 1) hl (by omega))]
  intro n hn hz
  induction n with
  | zero => omega
  | succ n ih =>
    by_cases e : n + 1 = zs.length
    · rw [e]; exact low _ (Nat.le_refl _)
    · cases n with
      | zero => omega
      | succ n =>
        rw [trimTo, if_pos, ih (by omega) (by omega)]
        rw [getD_at _ _ _ (padL_get zs M (n + 1) hl (by omega)), List.getD_eq_getElem?_getD, List.getElem?_eq_none (by omega)]
        rfl
theorem trim_pad (zs : List Int) (M : Nat) (h : polyOk zs = true) (hl : zs.length ≤ M) (hM : M ≤ 7) : trimA (padL zs M) = trimA zs := by
  have ⟨h1, _⟩ := (listOk_iff _ _ _).1 h
  have hle := trimTo_le zs zs.length
  rw [trimA, trimA, pad_ok zs M h hl hM, h, if_pos rfl, if_pos rfl, trimL, trimL, padL_length _ _ hl, trimTo_pad zs M h1 hl M (Nat.le_refl _) hl]
  unfold padL
  rw [List.take_append_of_le_length hle]
theorem add_val (zs ys : List Int) (n : Int) (hz : polyOk zs = true) (hy : polyOk ys = true) (ha : polyOk (addL zs ys (addM zs ys)) = true) (h1 : -200 ≤ n) (h2 : n ≤ 200) : evA (addL zs ys (addM zs ys)) n = evA zs n + evA ys n := by
  rw [evA_ok _ _ ha h1 h2, evA_ok _ _ hz h1 h2, evA_ok _ _ hy h1 h2]
  exact ev_addL n zs ys _ 0 (Nat.le_max_left _ _) (Nat.le_max_right _ _)
theorem neg_val (ys : List Int) (n : Int) (hy : polyOk ys = true) (h1 : -200 ≤ n) (h2 : n ≤ 200) : evA (scaleL ys (-1)) n = -evA ys n := by
  rw [evA_ok _ _ (neg_ok ys hy) h1 h2, evA_ok _ _ hy h1 h2]
  have := ev_scale n (-1) ys 0
  unfold evP
  omega
theorem add_ways (zs ys : List Int) : (addB zs ys = true ∧ polyOk zs = true ∧ polyOk ys = true ∧ polyOk (addL zs ys (addM zs ys)) = true ∧ addA zs ys = addL zs ys (addM zs ys)) ∨ addB zs ys = false := by
  unfold addB addA
  cases h : polyOk zs
  · exact .inr rfl
  · cases h2 : polyOk ys
    · exact .inr rfl
    · cases h3 : polyOk (addL zs ys (addM zs ys))
      · exact .inr rfl
      · exact .inl ⟨rfl, rfl, rfl, rfl, by show resL _ = _; rw [resL, h3]; rfl⟩
theorem neg_scale (ys : List Int) (hy : polyOk ys = true) : scaleA ys (-1) = scaleL ys (-1) ∧ scaleB ys (-1) = true := by
  have hn := neg_ok ys hy
  have hi : inB 100000 (-1) = true := by decide
  unfold scaleA scaleB
  rw [hy, hi, hn]
  exact ⟨by show resL _ = _; rw [resL, hn]; rfl, rfl⟩
theorem back_add (zs ys : List Int) (hz : polyOk zs = true) (hy : polyOk ys = true) (ha : polyOk (addL zs ys (addM zs ys)) = true) : addA (addL zs ys (addM zs ys)) (scaleL ys (-1)) = padL zs (addM zs ys) ∧ addB (addL zs ys (addM zs ys)) (scaleL ys (-1)) = true := by
  have h1 : zs.length ≤ addM zs ys := Nat.le_max_left _ _
  have h2 : ys.length ≤ addM zs ys := Nat.le_max_right _ _
  have h7 := ((listOk_iff _ _ _).1 ha).2.1
  rw [addL_length] at h7
  have e : addM (addL zs ys (addM zs ys)) (scaleL ys (-1)) = addM zs ys := by
    show max _ _ = _
    rw [addL_length, scaleL_length]
    exact Nat.max_eq_left h2
  have hp := pad_ok zs _ hz h1 h7
  unfold addA addB
  rw [e, sub_back zs ys _ h1, ha, neg_ok ys hy, hp]
  exact ⟨by show resL _ = _; rw [resL, hp]; rfl, rfl⟩
set_option maxHeartbeats 2000000 in
theorem lawAddPolys (a : Option Addr) (len cap : Nat) (w : World) (hc : Came w a len cap) : Calls Try.prog 10 #[.slice a len cap] w (Gives (.bool true) w) := by
  have hcap := hc.lenLe
  have hcap2 := hc.capLe
  unfold maxLen at hcap2
  by_cases hbig : 1048576 < len
  · clear hc
    go_enter Try.func10, Try.ntmps10
    go_wp2
    go_ret
    exact ⟨rfl, Below.refl _ _⟩
  · have HD := hidH (drawAddPolys a len cap w hc (by omega))
    clear hc
    go_enter Try.func10, Try.ntmps10
    go_wp2_with fail
    refine HD.out.mono ?_
    rintro e w1 ⟨v, t, zs, ys, m, rfl, hrow, hrow2, h8, h8y, hm, hB⟩
    have LP := hidH (hrow.lies.mono (Nat.le_refl _) hm)
    have LQ := hidH hrow2.lies
    have B1 := hidH hB
    clear hrow hrow2 hm hB HD
    go_wp2_with fail
    refine (add_any v zs t ys w1 _ _ _ _ LP.out LQ.out).mono ?_; rintro e w2 ⟨q, rfl, hq, hb⟩
    have LP2 := hidH (LP.out.below hb)
    have LQ2 := hidH (LQ.out.below hb)
    have RS2 := hidH hq
    have B2 := hidH (B1.out.trans (hb.mono B1.out.size))
    clear hb hq LP LQ B1
    go_wp2_with fail
    refine (sAdd_any v zs t ys w2 _ _ _ _ LP2.out LQ2.out).mono ?_; rintro e w3 ⟨u, rfl, hu, hb⟩
    have LP3 := hidH (LP2.out.below hb)
    have LQ3 := hidH (LQ2.out.below hb)
    have RS3 := hidH (RS2.out.below hb)
    have RU3 := hidH hu
    have B3 := hidH (B2.out.trans (hb.mono B2.out.size))
    clear hb hu LP2 LQ2 RS2 B2
    rcases add_ways zs ys with ⟨he, hz, hy, ha, hsa⟩ | he
    · rw [he]
      rw [hsa] at RS3 RU3
      clear he hsa
      have ⟨k1, hs⟩ := polyOk_small _ hz
      have k7 := hs.1
      have ⟨y1, hs2⟩ := polyOk_small _ hy
      have y7 := hs2.1
      have HNS := hidH (neg_scale ys hy)
      have HBA := hidH (back_add zs ys hz hy ha)
      have HTP := hidH fun (M : Nat) (h1 : zs.length ≤ M) (h2 : M ≤ 7) => trim_pad zs M hz h1 h2
      have HAV := hidH fun (n : Int) => add_val zs ys n hz hy ha
      have HNV := hidH fun (n : Int) => neg_val ys n hy
      have hls : (addL zs ys (addM zs ys)).length = addM zs ys := addL_length _ _ _
      have hM1 : zs.length ≤ addM zs ys := Nat.le_max_left _ _
      have hM2 : ys.length ≤ addM zs ys := Nat.le_max_right _ _
      have hM3 : addM zs ys = max zs.length ys.length := rfl
      have hM7 := ((listOk_iff _ _ _).1 ha).2.1
      rw [hls] at hM7
      clear hz hy ha hs hs2
      generalize hSM : addL zs ys (addM zs ys) = SL at *
      clear hSM
      generalize scaleL ys (-1) = ML at *
      generalize addM zs ys = M at *
      obtain ⟨b, cp, rfl, hlc, hcm, _, _, _⟩ := RS3.out.blk (by omega)
      obtain ⟨b1, off1, cp1, rfl, hlc1, hcm1, _, _, _, _⟩ := LP3.out.addr (by omega)
      obtain ⟨b2, off2, cp2, rfl, hlc2, hcm2, _, _, _, _⟩ := LQ3.out.addr (by omega)
      unfold maxLen at hcm hcm1 hcm2
      rw [hls] at hlc ⊢
      rw [hls] at RS3
      have HM3 := hidH hM3
      clear hM3 hls
      go_wp2_with fail
      refine (deInts_yes _ u SL w3 _ _ _ _ RS3.out.lies RU3.out.lies).mono ?_; rintro e w4 ⟨rfl, hb⟩
      have LP4 := hidH (LP3.out.below hb)
      have LQ4 := hidH (LQ3.out.below hb)
      have RS4 := hidH (RS3.out.below hb)
      have B4 := hidH (B3.out.trans (hb.mono B3.out.size))
      clear hb LP3 LQ3 RS3 RU3 B3
      go_wp2_with fail
      refine (scale_any _ ys (-1) w4 _ _ LQ4.out).mono ?_; rintro e w5 ⟨mi, rfl, hr, hb⟩
      rw [HNS.out.1] at hr
      rw [HNS.out.2]
      have RM5 := hidH hr
      have LP5 := hidH (LP4.out.below hb)
      have LQ5 := hidH (LQ4.out.below hb)
      have RS5 := hidH (RS4.out.below hb)
      have B5 := hidH (B4.out.trans (hb.mono B4.out.size))
      clear hb hr LP4 LQ4 RS4 B4
      go_wp2_with fail
      refine (add_any _ SL mi ML w5 _ _ _ _ RS5.out.lies RM5.out.lies).mono ?_; rintro e w6 ⟨bk, rfl, hr, hb⟩
      rw [HBA.out.1] at hr
      rw [HBA.out.2]
      have RB6 := hidH hr
      have RM6 := hidH (RM5.out.below hb)
      have LP6 := hidH (LP5.out.below hb)
      have LQ6 := hidH (LQ5.out.below hb)
      have RS6 := hidH (RS5.out.below hb)
      have B6 := hidH (B5.out.trans (hb.mono B5.out.size))
      clear hb hr LP5 LQ5 RS5 RM5 B5
      go_wp2_with fail
      refine (sScale_any _ ys (-1) w6 _ _ LQ6.out).mono ?_; rintro e w7 ⟨wm, rfl, hr, hb⟩
      rw [HNS.out.1] at hr
      rw [HNS.out.2]
      have RW7 := hidH hr
      have RB7 := hidH (RB6.out.below hb)
      have RM7 := hidH (RM6.out.below hb)
      have LP7 := hidH (LP6.out.below hb)
      have LQ7 := hidH (LQ6.out.below hb)
      have RS7 := hidH (RS6.out.below hb)
      have B7 := hidH (B6.out.trans (hb.mono B6.out.size))
      clear hb hr LP6 LQ6 RS6 RM6 RB6 B6
      have HES := hidH fun (W : World) (j : Int) (hb : Below w7.heap.size w7 W) => (at_any _ SL j W _ _ (RS7.out.below hb).lies).mono fun e w' (h : Gives _ W e w') => (⟨h.1, hb.trans (h.2.mono hb.size)⟩ : e = .returned (.int .i64 (evA SL j)) ∧ Below w7.heap.size w7 w')
      have HEP := hidH fun (W : World) (j : Int) (hb : Below w7.heap.size w7 W) => (at_any _ zs j W _ _ (LP7.out.below hb)).mono fun e w' (h : Gives _ W e w') => (⟨h.1, hb.trans (h.2.mono hb.size)⟩ : e = .returned (.int .i64 (evA zs j)) ∧ Below w7.heap.size w7 w')
      have HEQ := hidH fun (W : World) (j : Int) (hb : Below w7.heap.size w7 W) => (at_any _ ys j W _ _ (LQ7.out.below hb)).mono fun e w' (h : Gives _ W e w') => (⟨h.1, hb.trans (h.2.mono hb.size)⟩ : e = .returned (.int .i64 (evA ys j)) ∧ Below w7.heap.size w7 w')
      have HEM := hidH fun (W : World) (j : Int) (hb : Below w7.heap.size w7 W) => (at_any _ ML j W _ _ (RM7.out.below hb).lies).mono fun e w' (h : Gives _ W e w') => (⟨h.1, hb.trans (h.2.mono hb.size)⟩ : e = .returned (.int .i64 (evA ML j)) ∧ Below w7.heap.size w7 w')
      go_wp2_with fail
      go_loopw [15] (fun i wr => ∃ k : Nat, k ≤ 13 ∧ i = .int .i64 ((k : Int) - 6) ∧ Below w7.heap.size w7 wr) (fun i _ => (7 - intOf i).toNat)
      case atStart => exact ⟨0, by omega, rfl, Below.refl _ _⟩
      case round =>
        obtain ⟨k, hk, rfl, hb⟩ := hrel
        have HBq := hidH hb
        clear hb
        by_cases hlt : k < 13
        · have ⟨d1, d2⟩ := evA_bd zs ((k : Int) - 6)
          have ⟨d3, d4⟩ := evA_bd ys ((k : Int) - 6)
          have HA := hidH (HAV.out ((k : Int) - 6) (by omega) (by omega))
          have HN := hidH (HNV.out ((k : Int) - 6) (by omega) (by omega))
          generalize hx : evA zs ((k : Int) - 6) = x at *
          have HX := hidH hx
          clear hx
          generalize hy : evA ys ((k : Int) - 6) = y at *
          have HY := hidH hy
          clear hy
          go_wp2_with fail
          refine (HES.out wr ((k : Int) - 6) HBq.out).mono ?_; rintro e w8 ⟨rfl, hb⟩
          have HB8 := hidH hb
          rw [HA.out]
          clear hb
          go_wp2_with fail
          refine (HEP.out w8 ((k : Int) - 6) HB8.out).mono ?_; rintro e w9 ⟨rfl, hb⟩
          have HB9 := hidH hb
          rw [HX.out]
          clear hb
          go_wp2_with fail
          refine (HEQ.out w9 ((k : Int) - 6) HB9.out).mono ?_; rintro e w10 ⟨rfl, hb⟩
          have HB10 := hidH hb
          rw [HY.out]
          clear hb
          go_wp2_with fail
          refine (HEM.out w10 ((k : Int) - 6) HB10.out).mono ?_; rintro e w11 ⟨rfl, hb⟩
          have HB11 := hidH hb
          rw [HN.out]
          clear hb
          go_wp2_with fail
          refine (HEQ.out w11 ((k : Int) - 6) HB11.out).mono ?_; rintro e w12 ⟨rfl, hb⟩
          have HB12 := hidH hb
          rw [HY.out]
          clear hb
          go_wp2_with fail
          go_roundw
          case rel => exact ⟨k + 1, by omega, by rw [show ((k + 1 : Nat) : Int) - 6 = (k : Int) - 6 + 1 by omega], HB12.out⟩
          case measure => simp [intOf]; omega
        · obtain rfl : k = 13 := by omega
          go_wp2_with fail
          refine (deInts_yes mi wm ML wr _ _ _ _ (RM7.out.below HBq.out).lies (RW7.out.below HBq.out).lies).mono ?_; rintro e w8 ⟨rfl, hb⟩
          have HB8 := hidH (HBq.out.trans (hb.mono HBq.out.size))
          clear hb
          go_wp2_with fail
          refine (trim_any bk (padL zs M) w8 _ _ (RB7.out.below HB8.out).lies).mono ?_; rintro e w9 ⟨tb, rfl, hr, hb⟩
          rw [HTP.out M hM1 hM7] at hr
          have RT9 := hidH hr
          have HB9 := hidH (HB8.out.trans (hb.mono HB8.out.size))
          clear hb hr
          go_wp2_with fail
          refine (trim_any _ zs w9 _ _ (LP7.out.below HB9.out)).mono ?_; rintro e w10 ⟨tp, rfl, hr, hb⟩
          have RT10 := hidH (RT9.out.below hb)
          have RP10 := hidH hr
          have HB10 := hidH (HB9.out.trans (hb.mono HB9.out.size))
          clear hb hr
          generalize trimA zs = TL at *
          go_wp2_with fail
          refine (deInts_yes tb tp TL w10 _ _ _ _ RT10.out.lies RP10.out.lies).mono ?_; rintro e w11 ⟨rfl, hb⟩
          have HB11 := hidH (HB10.out.trans (hb.mono HB10.out.size))
          clear hb
          by_cases hle : zs.length < ys.length
          · have hMe : M = ys.length := by have := HM3.out; omega
            have hlei : (zs.length : Int) < (ys.length : Int) := by omega
            subst hMe
            go_wp2_with fail
            go_ret
            exact ⟨rfl, B7.out.trans (HB11.out.mono B7.out.size)⟩
          · have hMe : M = zs.length := by have := HM3.out; omega
            have hlei : ¬ (zs.length : Int) < (ys.length : Int) := by omega
            subst hMe
            go_wp2_with fail
            go_ret
            exact ⟨rfl, B7.out.trans (HB11.out.mono B7.out.size)⟩
    · rw [he]
      clear he
      generalize addA zs ys = L at *
      go_wp2_with fail
      refine (deInts_yes q u L w3 _ _ _ _ RS3.out.lies RU3.out.lies).mono ?_; rintro e w4 ⟨rfl, hb⟩
      have HB4 := hidH hb
      clear hb
      go_wp2_with fail
      refine (deInts_yes q u L w4 _ _ _ _ (RS3.out.below HB4.out).lies (RU3.out.below HB4.out).lies).mono ?_; rintro e w5 ⟨rfl, hb⟩
      have HB5 := hidH (HB4.out.trans (hb.mono HB4.out.size))
      clear hb
      go_wp2_with fail
      go_ret
      exact ⟨rfl, B3.out.trans (HB5.out.mono B3.out.size)⟩
end Go.Proofs.Ytnbggjdmpgjkgaa
