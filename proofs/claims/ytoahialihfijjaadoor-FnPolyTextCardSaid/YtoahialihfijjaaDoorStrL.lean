/-
  The walk of a law: a polynomial is parsed from its text, and a text that is parsed is that of the parsed polynomial. Conditions: the bytes that came in can be read; the library's tables and errors are as its own text lays them, and its variable MaxLen holds some number.
-/
import Derived.Test.YtoahialihfijjaaDoorStrK
import Derived.Test.YtoahialihfijjaaDoorKitU
import Derived.Test.YtoahialihfijjaaDoorDeFns
namespace Go.Proofs.YtoahialihfijjaaDoor
set_option maxRecDepth 4000
open Go.RowKit
theorem came_below {w w' : World} {a : Option Addr} {len cap : Nat} (h : Came w a len cap) (hb : Below w.heap.size w w') : Came w' a len cap := by
  obtain ⟨h1, h2, h3, h4⟩ := h
  refine ⟨h1, h2, fun j hj => ?_, h4⟩
  obtain ⟨b, off, x, e, hl, x0, x1, hc⟩ := h3 j hj
  exact ⟨b, off, x, e, Nat.lt_of_lt_of_le hl hb.size, x0, x1, by rw [hb.cell (p := ⟨b, off + j, none⟩) hl]; exact hc⟩
theorem empty_no (a : ByteArray) (h : 0 < a.size) : a.toList.isEmpty = false := by
  rw [Lib.toList_data]
  cases hl : a.data.toList with
  | nil =>
    have h2 := size_lenB a
    rw [hl, List.length_nil] at h2
    omega
  | cons c r => rfl
theorem fpB_pos (p : List Int) (h : polyOk p = true) : 0 < (fpB p).size := by
  rw [fpB_ok p h]
  have := List.length_pos_iff.2 (text_ne_nil p h)
  simpa [ByteArray.size] using this
theorem fpB_small (p : List Int) : (fpB p).size ≤ 154 := by
  by_cases h : polyOk p = true
  · have ⟨_, h7, hz⟩ := (listOk_iff _ _ _).1 h
    have := textL_len p (fun x hx => by have := hz x hx; omega)
    rw [fpB_ok p h]
    show (textL p).toArray.size ≤ 154
    rw [List.size_toArray]
    omega
  · unfold fpB
    rw [if_neg h]
    exact Nat.zero_le _
theorem ppB_text (p : List Int) (h : polyOk p = true) : ppB (fpB p) = true ∧ ppA (fpB p) = p := by
  have e := ppO_text p h
  have hb : ppB (fpB p) = true := by
    unfold ppB
    rw [e]
    exact decide_eq_true rfl
  exact ⟨hb, by rw [ppA_yes _ hb, e]⟩
set_option maxHeartbeats 4000000 in
theorem lawPolyText (a : Option Addr) (len cap : Nat) (a2 : Option Addr) (len2 cap2 : Nat) (w : World) (hc : Came w a len cap) (hc2 : Came w a2 len2 cap2) (hT : PowT w) (hE : ErrT w) (hM : MaxT w) : Calls Tryd.prog 3 #[.slice a len cap, .slice a2 len2 cap2] w (Gives (.bool true) w) := by
  by_cases hbig : 1048576 < len
  · clear hc hc2
    go_enter Tryd.func3, Tryd.ntmps3
    go_wp2
    go_ret
    exact ⟨rfl, Below.refl _ _⟩
  by_cases hbig2 : 1048576 < len2
  · clear hc hc2
    go_enter Tryd.func3, Tryd.ntmps3
    go_wp2
    go_ret
    exact ⟨rfl, Below.refl _ _⟩
  have HD := hidH (drawFormatPoly a len cap w hc (by omega))
  have HD2 := hidH fun (W : World) (hb : Below w.heap.size w W) => drawParsePoly a2 len2 cap2 W (came_below hc2 hb) (by omega)
  have HF := hidH fun (W : World) (v : Value) (zs : List Int) (lo hi : Nat) (hv : Lies W lo hi v zs) (hb : Below w.heap.size w W) => formatPoly_any v zs W lo hi hv (hT.below hb)
  have HP := hidH fun (W : World) (s : ByteArray) (hs : s.size ≤ 1048576) (hb : Below w.heap.size w W) => parsePoly_any s W hs (hT.below hb) (hE.below hb) (hM.below hb)
  clear hc hc2 hT hE hM
  go_enter Tryd.func3, Tryd.ntmps3
  go_wp2_with fail
  refine HD.out.mono ?_
  rintro e w1 ⟨v, zs, rfl, hrow, h8, hb⟩
  have B1 := hidH hb
  have R_1 := hidH hrow
  have hsz := fpB_small zs
  have s1 := hb.size
  obtain ⟨va, vn, vc, hvf⟩ : ∃ a2 n2 c2, v = .slice a2 n2 c2 := by
    obtain ⟨a2, c2, e, _⟩ := hrow.lies
    exact ⟨a2, _, c2, e⟩
  subst hvf
  clear hb hrow HD
  cases hk : polyOk zs
  · have HV := hidH fun (W : World) (hv : Lies W w.heap.size w1.heap.size (.slice va vn vc) zs) => polyValid_any (.slice va vn vc) zs W _ _ hv
    rw [hk] at HV
    have HFz := hidH fun (W : World) (hv : Lies W w.heap.size w1.heap.size (.slice va vn vc) zs) (hb : Below w.heap.size w W) => HF.out W (.slice va vn vc) zs _ _ hv hb
    have HSz := hidH fun (W : World) (hv : Lies W w.heap.size w1.heap.size (.slice va vn vc) zs) => sFormatPoly_any (.slice va vn vc) zs W _ _ hv
    have hfe : fpB zs = ⟨#[]⟩ := by unfold fpB; rw [hk]; rfl
    rw [hfe] at HFz HSz
    clear hfe hk hsz
    go_wp2_with fail
    refine (HFz.out _ R_1.out.lies B1.out).mono ?_; rintro e w2 ⟨rfl, hb⟩
    have B2 := hidH (B1.out.trans (hb.mono B1.out.size))
    have s2 := hb.size
    have R_2 := hidH (R_1.out.below hb)
    clear hb
    clear B1 R_1
    go_wp2_with fail
    refine (HSz.out _ R_2.out.lies).mono ?_; rintro e w3 ⟨rfl, hb⟩
    have B3 := hidH (B2.out.trans (hb.mono B2.out.size))
    have s3 := hb.size
    have R_3 := hidH (R_2.out.below hb)
    clear hb
    clear B2 R_2
    go_wp2_with fail
    refine (HV.out _ R_3.out.lies).mono ?_; rintro e w4 ⟨rfl, hb⟩
    have B4 := hidH (B3.out.trans (hb.mono B3.out.size))
    have s4 := hb.size
    have R_4 := hidH (R_3.out.below hb)
    clear hb
    clear B3 R_3
    clear R_4
    go_wp2_with fail
    refine (HD2.out _ B4.out).mono ?_; rintro e w5 ⟨t, ht, rfl, hb⟩
    have B5 := hidH (B4.out.trans (hb.mono B4.out.size))
    have s5 := hb.size
    clear hb
    clear B4 
    have htt : t.size ≤ 1048576 := by omega
    cases hpb : ppB t
    · have HPt := hidH fun (W : World) (hb : Below w.heap.size w W) => HP.out W t htt hb
      have HSt := hidH fun (W : World) => sParsePoly_any t W htt
      rw [hpb] at HPt HSt
      clear hpb
      generalize ppA t = rs at *
      go_wp2_with fail
      refine (HPt.out _ B5.out).mono ?_; rintro e w6 ⟨g, rfl, hr, hb⟩
      have B6 := hidH (B5.out.trans (hb.mono B5.out.size))
      have s6 := hb.size
      have G_6 := hidH hr
      clear hb hr
      clear B5 
      go_wp2_with fail
      refine (HSt.out _).mono ?_; rintro e w7 ⟨u, rfl, hr, hb⟩
      have B7 := hidH (B6.out.trans (hb.mono B6.out.size))
      have s7 := hb.size
      have G_7 := hidH (G_6.out.below hb)
      have U_7 := hidH hr
      clear hb hr
      clear B6 G_6
      go_wp2_with fail
      refine (deInts_yes g u rs _ _ _ _ _ G_7.out.lies U_7.out.lies).mono ?_; rintro e w8 ⟨rfl, hb⟩
      have B8 := hidH (B7.out.trans (hb.mono B7.out.size))
      have s8 := hb.size
      have G_8 := hidH (G_7.out.below hb)
      have U_8 := hidH (U_7.out.below hb)
      clear hb
      clear B7 G_7 U_7
      go_wp2
      go_ret
      exact ⟨rfl, B8.out⟩
    · have HPt := hidH fun (W : World) (hb : Below w.heap.size w W) => HP.out W t htt hb
      have HSt := hidH fun (W : World) => sParsePoly_any t W htt
      rw [hpb] at HPt HSt
      have hft : fpB (ppA t) = t := by rw [ppA_yes t hpb]; exact of_decide_eq_true hpb
      have HFt := hidH fun (W : World) (v : Value) (lo hi : Nat) (hv : Lies W lo hi v (ppA t)) (hb : Below w.heap.size w W) => HF.out W v (ppA t) lo hi hv hb
      rw [hft] at HFt
      clear hft
      clear hpb
      generalize ppA t = rs at *
      go_wp2_with fail
      refine (HPt.out _ B5.out).mono ?_; rintro e w6 ⟨g, rfl, hr, hb⟩
      have B6 := hidH (B5.out.trans (hb.mono B5.out.size))
      have s6 := hb.size
      have G_6 := hidH hr
      clear hb hr
      clear B5 
      go_wp2_with fail
      refine (HSt.out _).mono ?_; rintro e w7 ⟨u, rfl, hr, hb⟩
      have B7 := hidH (B6.out.trans (hb.mono B6.out.size))
      have s7 := hb.size
      have G_7 := hidH (G_6.out.below hb)
      have U_7 := hidH hr
      clear hb hr
      clear B6 G_6
      go_wp2_with fail
      refine (deInts_yes g u rs _ _ _ _ _ G_7.out.lies U_7.out.lies).mono ?_; rintro e w8 ⟨rfl, hb⟩
      have B8 := hidH (B7.out.trans (hb.mono B7.out.size))
      have s8 := hb.size
      have G_8 := hidH (G_7.out.below hb)
      have U_8 := hidH (U_7.out.below hb)
      clear hb
      clear B7 G_7 U_7
      go_wp2_with fail
      refine (HFt.out _ g _ _ G_8.out.lies B8.out).mono ?_; rintro e w9 ⟨rfl, hb⟩
      have B9 := hidH (B8.out.trans (hb.mono B8.out.size))
      have s9 := hb.size
      have G_9 := hidH (G_8.out.below hb)
      have U_9 := hidH (U_8.out.below hb)
      clear hb
      clear B8 G_8 U_8
      go_wp2
      go_ret
      exact ⟨rfl, B9.out⟩
  · have HV := hidH fun (W : World) (hv : Lies W w.heap.size w1.heap.size (.slice va vn vc) zs) => polyValid_any (.slice va vn vc) zs W _ _ hv
    rw [hk] at HV
    have HFz := hidH fun (W : World) (hv : Lies W w.heap.size w1.heap.size (.slice va vn vc) zs) (hb : Below w.heap.size w W) => HF.out W (.slice va vn vc) zs _ _ hv hb
    have HSz := hidH fun (W : World) (hv : Lies W w.heap.size w1.heap.size (.slice va vn vc) zs) => sFormatPoly_any (.slice va vn vc) zs W _ _ hv
    have ⟨pb1, pb2⟩ := ppB_text zs hk
    have hne := empty_no (fpB zs) (fpB_pos zs hk)
    have HPz := hidH fun (W : World) (hb : Below w.heap.size w W) => HP.out W (fpB zs) (by omega) hb
    rw [pb1, pb2] at HPz
    clear pb1 pb2 hk
    generalize fpB zs = f at *
    go_wp2_with fail
    refine (HFz.out _ R_1.out.lies B1.out).mono ?_; rintro e w2 ⟨rfl, hb⟩
    have B2 := hidH (B1.out.trans (hb.mono B1.out.size))
    have s2 := hb.size
    have R_2 := hidH (R_1.out.below hb)
    clear hb
    clear B1 R_1
    go_wp2_with fail
    refine (HSz.out _ R_2.out.lies).mono ?_; rintro e w3 ⟨rfl, hb⟩
    have B3 := hidH (B2.out.trans (hb.mono B2.out.size))
    have s3 := hb.size
    have R_3 := hidH (R_2.out.below hb)
    clear hb
    clear B2 R_2
    go_wp2_with fail
    refine (HV.out _ R_3.out.lies).mono ?_; rintro e w4 ⟨rfl, hb⟩
    have B4 := hidH (B3.out.trans (hb.mono B3.out.size))
    have s4 := hb.size
    have R_4 := hidH (R_3.out.below hb)
    clear hb
    clear B3 R_3
    go_wp2_with fail
    refine (HPz.out _ B4.out).mono ?_; rintro e w5 ⟨p, rfl, hr, hb⟩
    have B5 := hidH (B4.out.trans (hb.mono B4.out.size))
    have s5 := hb.size
    have R_5 := hidH (R_4.out.below hb)
    have P_5 := hidH hr
    clear hb hr
    clear B4 R_4
    go_wp2_with fail
    refine (deInts_yes p _ zs _ _ _ _ _ P_5.out.lies R_5.out.lies).mono ?_; rintro e w6 ⟨rfl, hb⟩
    have B6 := hidH (B5.out.trans (hb.mono B5.out.size))
    have s6 := hb.size
    have R_6 := hidH (R_5.out.below hb)
    have P_6 := hidH (P_5.out.below hb)
    clear hb
    clear B5 R_5 P_5
    clear P_6
    clear R_6
    go_wp2_with fail
    refine (HD2.out _ B6.out).mono ?_; rintro e w7 ⟨t, ht, rfl, hb⟩
    have B7 := hidH (B6.out.trans (hb.mono B6.out.size))
    have s7 := hb.size
    clear hb
    clear B6 
    have htt : t.size ≤ 1048576 := by omega
    cases hpb : ppB t
    · have HPt := hidH fun (W : World) (hb : Below w.heap.size w W) => HP.out W t htt hb
      have HSt := hidH fun (W : World) => sParsePoly_any t W htt
      rw [hpb] at HPt HSt
      clear hpb
      generalize ppA t = rs at *
      go_wp2_with fail
      refine (HPt.out _ B7.out).mono ?_; rintro e w8 ⟨g, rfl, hr, hb⟩
      have B8 := hidH (B7.out.trans (hb.mono B7.out.size))
      have s8 := hb.size
      have G_8 := hidH hr
      clear hb hr
      clear B7 
      go_wp2_with fail
      refine (HSt.out _).mono ?_; rintro e w9 ⟨u, rfl, hr, hb⟩
      have B9 := hidH (B8.out.trans (hb.mono B8.out.size))
      have s9 := hb.size
      have G_9 := hidH (G_8.out.below hb)
      have U_9 := hidH hr
      clear hb hr
      clear B8 G_8
      go_wp2_with fail
      refine (deInts_yes g u rs _ _ _ _ _ G_9.out.lies U_9.out.lies).mono ?_; rintro e w10 ⟨rfl, hb⟩
      have B10 := hidH (B9.out.trans (hb.mono B9.out.size))
      have s10 := hb.size
      have G_10 := hidH (G_9.out.below hb)
      have U_10 := hidH (U_9.out.below hb)
      clear hb
      clear B9 G_9 U_9
      go_wp2
      go_ret
      exact ⟨rfl, B10.out⟩
    · have HPt := hidH fun (W : World) (hb : Below w.heap.size w W) => HP.out W t htt hb
      have HSt := hidH fun (W : World) => sParsePoly_any t W htt
      rw [hpb] at HPt HSt
      have hft : fpB (ppA t) = t := by rw [ppA_yes t hpb]; exact of_decide_eq_true hpb
      have HFt := hidH fun (W : World) (v : Value) (lo hi : Nat) (hv : Lies W lo hi v (ppA t)) (hb : Below w.heap.size w W) => HF.out W v (ppA t) lo hi hv hb
      rw [hft] at HFt
      clear hft
      clear hpb
      generalize ppA t = rs at *
      go_wp2_with fail
      refine (HPt.out _ B7.out).mono ?_; rintro e w8 ⟨g, rfl, hr, hb⟩
      have B8 := hidH (B7.out.trans (hb.mono B7.out.size))
      have s8 := hb.size
      have G_8 := hidH hr
      clear hb hr
      clear B7 
      go_wp2_with fail
      refine (HSt.out _).mono ?_; rintro e w9 ⟨u, rfl, hr, hb⟩
      have B9 := hidH (B8.out.trans (hb.mono B8.out.size))
      have s9 := hb.size
      have G_9 := hidH (G_8.out.below hb)
      have U_9 := hidH hr
      clear hb hr
      clear B8 G_8
      go_wp2_with fail
      refine (deInts_yes g u rs _ _ _ _ _ G_9.out.lies U_9.out.lies).mono ?_; rintro e w10 ⟨rfl, hb⟩
      have B10 := hidH (B9.out.trans (hb.mono B9.out.size))
      have s10 := hb.size
      have G_10 := hidH (G_9.out.below hb)
      have U_10 := hidH (U_9.out.below hb)
      clear hb
      clear B9 G_9 U_9
      go_wp2_with fail
      refine (HFt.out _ g _ _ G_10.out.lies B10.out).mono ?_; rintro e w11 ⟨rfl, hb⟩
      have B11 := hidH (B10.out.trans (hb.mono B10.out.size))
      have s11 := hb.size
      have G_11 := hidH (G_10.out.below hb)
      have U_11 := hidH (U_10.out.below hb)
      clear hb
      clear B10 G_10 U_10
      go_wp2
      go_ret
      exact ⟨rfl, B11.out⟩
end Go.Proofs.YtoahialihfijjaaDoor
