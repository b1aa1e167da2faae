/-
  The walk of a law: the values of a product are the products of values, and its degree is the sum of both degrees. No conditions but that the bytes that came in can be read.
-/
import Derived.Test.YtgenniaklpheoaaKitS
import Derived.Test.YtgenniaklpheoaaDeFns
import Derived.Test.YtgenniaklpheoaaPolyAl
import Derived.Test.YtgenniaklpheoaaPolyFd
import Derived.Test.YtgenniaklpheoaaPolyLg
namespace Go.Proofs.Ytgenniaklpheoaa
open Go.RowKit
theorem top_same {m : Nat} {f : Int → Int} {c d : Int} (h1 : Top m f c) (h2 : Top m f d) : c = d := by
  induction m generalizing f with
  | zero => exact (h1 0).symm.trans (h2 0)
  | succ m ih => exact ih (f := Dl f) h1 h2
theorem top_deg {m k : Nat} {f : Int → Int} {c d : Int} (h1 : Top m f c) (h2 : Top k f d) (hc : c ≠ 0) (hd : d ≠ 0) : m = k := by
  rcases Nat.lt_trichotomy m k with h | h | h
  · exact absurd (top_same h2 (top_mono (top_const h1) h)) hd
  · exact h
  · exact absurd (top_same h1 (top_mono (top_const h2) h)) hc
/-- What a degree tells of the values. -/
theorem deg_top (zs : List Int) (hz : polyOk zs = true) : (degL zs = -1 ∧ ∀ n, evP zs n = 0) ∨ (∃ (m : Nat) (c : Int), degL zs = m ∧ m < zs.length ∧ c ≠ 0 ∧ Top m (evP zs) c) := by
  have ⟨h1, _⟩ := polyOk_small _ hz
  cases h : zeroOk zs
  · rcases trim_deg zs hz with ⟨hd, _⟩ | ⟨hd, x, hx, hx0⟩
    · have hp := trimTo_pos zs zs.length (by omega)
      rw [degL, hz, if_pos rfl, h] at hd
      have : ((trimTo zs zs.length : Nat) : Int) - 1 = -1 := hd
      omega
    · have hp := trimTo_pos zs zs.length (by omega)
      have hle := trimTo_le zs zs.length
      obtain ⟨m, hm⟩ : ∃ m, trimTo zs zs.length = m + 1 := ⟨trimTo zs zs.length - 1, by omega⟩
      have hl := trimL_length zs
      rw [hm] at hd hx hl
      rw [Nat.add_sub_cancel] at hx
      refine .inr ⟨m, x, by omega, by omega, hx0, ?_⟩
      exact top_congr (top_last (trimL zs) m x hl hx) fun n => (evP_trim zs n).symm
  · refine .inl ⟨by rw [degL, hz, if_pos rfl, h]; rfl, fun n => ?_⟩
    refine ev_allzero n zs (fun x hx => ?_) 0
    rw [zeroOk] at h
    cases hx0 : (x != 0)
    · exact bne_eq_false_iff_eq.1 hx0
    · have : zs.any (fun x => x != 0) = true := List.any_eq_true.2 ⟨x, hx, hx0⟩
      rw [this] at h
      cases h
theorem mul_deg (zs ys : List Int) (hz : polyOk zs = true) (hy : polyOk ys = true) (hl : zs.length + ys.length ≤ 8) (hm : polyOk (mulL zs ys) = true) : degL zs = -1 ∨ degL ys = -1 ∨ ∃ a b : Nat, degL zs = a ∧ degL ys = b ∧ a ≤ 7 ∧ b ≤ 7 ∧ degL (mulL zs ys) = (a : Int) + b := by
  have ⟨z1, hs⟩ := polyOk_small _ hz
  have ⟨y1, hs2⟩ := polyOk_small _ hy
  rcases deg_top zs hz with ⟨h, _⟩ | ⟨a, c, ha, a7, hc, tc⟩
  · exact .inl h
  · rcases deg_top ys hy with ⟨h, _⟩ | ⟨b, d, hb, b7, hd, td⟩
    · exact .inr (.inl h)
    · refine .inr (.inr ⟨a, b, ha, hb, by omega, by omega, ?_⟩)
      obtain ⟨K, hK, hk⟩ := top_mul (a + b) a b rfl
      have ht := top_congr (hk _ _ c d tc td) (g := evP (mulL zs ys)) fun n => mul_ev zs ys hs hs2 hl (by omega) (by omega) n
      have hne : K * (c * d) ≠ 0 := Int.mul_ne_zero (by omega) (Int.mul_ne_zero hc hd)
      rcases deg_top _ hm with ⟨_, h0⟩ | ⟨m, e, he, _, he0, te⟩
      · exact absurd (top_same ht (top_congr (top_mono (top_zero 0) (Nat.zero_le _)) h0)) hne
      · rw [he, top_deg te ht he0 hne]
        omega
theorem degL_bd (zs : List Int) : -2 ≤ degL zs ∧ degL zs ≤ 7 := by
  unfold degL
  have := trimTo_le zs zs.length
  split
  · rename_i h
    have ⟨_, h7⟩ := (listOk_iff _ _ _).1 h
    split <;> omega
  · omega
set_option maxHeartbeats 2000000 in
theorem lawMulPolys (a : Option Addr) (len cap : Nat) (w : World) (hc : Came w a len cap) : Calls Try.prog 3 #[.slice a len cap] w (Gives (.bool true) w) := by
  have hcap := hc.lenLe
  have hcap2 := hc.capLe
  unfold maxLen at hcap2
  by_cases hbig : 1048576 < len
  · clear hc
    go_enter Try.func3, Try.ntmps3
    go_wp2
    go_ret
    exact ⟨rfl, Below.refl _ _⟩
  · have HD := hidH (drawMulPolys a len cap w hc (by omega))
    clear hc
    go_enter Try.func3, Try.ntmps3
    go_wp2_with fail
    refine HD.out.mono ?_
    rintro e w1 ⟨v, t, zs, ys, rfl, hp, hq, h8, h8y, hB⟩
    have LP := hidH hp
    have LQ := hidH hq
    have B1 := hidH hB
    clear hp hq hB HD
    go_wp2_with fail
    refine (mul_any v zs t ys w1 _ _ _ _ LP.out LQ.out).mono ?_; rintro e w2 ⟨q, rfl, hq, hb⟩
    have LP2 := hidH (LP.out.below hb)
    have LQ2 := hidH (LQ.out.below hb)
    have RS2 := hidH hq
    have B2 := hidH (B1.out.trans (hb.mono B1.out.size))
    clear hb hq LP LQ B1
    go_wp2_with fail
    refine (sMul_any v zs t ys w2 _ _ _ _ LP2.out LQ2.out).mono ?_; rintro e w3 ⟨u, rfl, hu, hb⟩
    have LP3 := hidH (LP2.out.below hb)
    have LQ3 := hidH (LQ2.out.below hb)
    have RS3 := hidH (RS2.out.below hb)
    have RU3 := hidH hu
    have B3 := hidH (B2.out.trans (hb.mono B2.out.size))
    clear hb hu LP2 LQ2 RS2 B2
    rcases mul_ways zs ys with ⟨he, hz, hy, hl8, hm, hsa⟩ | he
    · rw [he]
      rw [hsa] at RS3 RU3
      clear he hsa
      have ⟨k1, hs⟩ := polyOk_small _ hz
      have ⟨y1, hs2⟩ := polyOk_small _ hy
      have hls := mulL_length zs ys
      have HMV := hidH fun (n : Int) => mul_val zs ys n hz hy hl8 hm
      have hmd := mul_deg zs ys hz hy hl8 hm
      have HMC := hidH (show mulA ys zs = mulL zs ys ∧ mulB ys zs = true by
        have ⟨e, e1, e2⟩ := mul_comm zs ys
        refine ⟨?_, ?_⟩
        · rw [← e1]; unfold mulA; rw [hz, hy, show mulOk zs ys = true from decide_eq_true hl8]; show resL _ = _; rw [resL, hm]; rfl
        · rw [← e2]; unfold mulB; rw [hz, hy, show mulOk zs ys = true from decide_eq_true hl8, hm]; rfl)
      have hdz := degL_bd zs
      have hdy := degL_bd ys
      have hds := degL_bd (mulL zs ys)
      clear hz hy hm hs hs2
      generalize mulL zs ys = SL at *
      obtain ⟨b, cp, rfl, hlc, hcm, _, _, _⟩ := RS3.out.blk (by omega)
      obtain ⟨b1, off1, cp1, rfl, hlc1, hcm1, _, _, _, _⟩ := LP3.out.addr (by omega)
      obtain ⟨b2, off2, cp2, rfl, hlc2, hcm2, _, _, _, _⟩ := LQ3.out.addr (by omega)
      unfold maxLen at hcm hcm1 hcm2
      generalize hda : degL zs = da at *
      have HDA := hidH hda
      clear hda
      generalize hdb : degL ys = db at *
      have HDB := hidH hdb
      clear hdb
      generalize hdc : degL SL = dc at *
      have HDC := hidH hdc
      clear hdc
      have HMD := hidH hmd
      clear hmd
      have HLS := hidH (show (SL.length : Int) = (zs.length : Int) + (ys.length : Int) - 1 by omega)
      clear hls
      go_wp2_with fail
      refine (deInts_yes _ u SL w3 _ _ _ _ RS3.out.lies RU3.out.lies).mono ?_; rintro e w4 ⟨rfl, hb⟩
      have LP4 := hidH (LP3.out.below hb)
      have LQ4 := hidH (LQ3.out.below hb)
      have RS4 := hidH (RS3.out.below hb)
      have B4 := hidH (B3.out.trans (hb.mono B3.out.size))
      clear hb LP3 LQ3 RS3 RU3 B3
      have HES := hidH fun (W : World) (j : Int) (hb : Below w4.heap.size w4 W) => (at_any _ SL j W _ _ ((RS4.out.below hb).lies)).mono fun e w' (h : Gives _ W e w') => (⟨h.1, hb.trans (h.2.mono hb.size)⟩ : e = .returned (.int .i64 (evA SL j)) ∧ Below w4.heap.size w4 w')
      have HEP := hidH fun (W : World) (j : Int) (hb : Below w4.heap.size w4 W) => (at_any _ zs j W _ _ (LP4.out.below hb)).mono fun e w' (h : Gives _ W e w') => (⟨h.1, hb.trans (h.2.mono hb.size)⟩ : e = .returned (.int .i64 (evA zs j)) ∧ Below w4.heap.size w4 w')
      have HEQ := hidH fun (W : World) (j : Int) (hb : Below w4.heap.size w4 W) => (at_any _ ys j W _ _ (LQ4.out.below hb)).mono fun e w' (h : Gives _ W e w') => (⟨h.1, hb.trans (h.2.mono hb.size)⟩ : e = .returned (.int .i64 (evA ys j)) ∧ Below w4.heap.size w4 w')
      go_wp2_with fail
      go_loopw [9] (fun i wr => ∃ k : Nat, k ≤ 21 ∧ i = .int .i64 ((k : Int) - 10) ∧ Below w4.heap.size w4 wr) (fun i _ => (11 - intOf i).toNat)
      case atStart => exact ⟨0, by omega, rfl, Below.refl _ _⟩
      case round =>
        obtain ⟨k, hk, rfl, hb⟩ := hrel
        have HBq := hidH hb
        clear hb
        by_cases hlt : k < 21
        · have hmd := HMV.out ((k : Int) - 10) (by omega) (by omega)
          have hwd := wrap_evA SL ((k : Int) - 10)
          generalize hc1 : evA SL ((k : Int) - 10) = c1 at *
          have H1 := hidH hc1
          clear hc1
          generalize hc2 : evA zs ((k : Int) - 10) = c2 at *
          have H2 := hidH hc2
          clear hc2
          generalize hc3 : evA ys ((k : Int) - 10) = c3 at *
          have H3 := hidH hc3
          clear hc3
          have hne : (c1 != IntKind.i64.wrap (c2 * c3)) = false := by rw [← hmd, hwd]; simp
          have hne2 : (c1 != wrap64 (c2 * c3)) = false := by rw [← wrap_i]; exact hne
          clear hmd hwd
          go_wp2_with fail
          refine (HES.out wr ((k : Int) - 10) HBq.out).mono ?_; rintro e w8 ⟨rfl, hb⟩
          have HB8 := hidH hb
          rw [H1.out]
          clear hb
          go_wp2_with fail
          refine (HEP.out w8 ((k : Int) - 10) HB8.out).mono ?_; rintro e w9 ⟨rfl, hb⟩
          have HB9 := hidH hb
          rw [H2.out]
          clear hb
          go_wp2_with fail
          refine (HEQ.out w9 ((k : Int) - 10) HB9.out).mono ?_; rintro e w10 ⟨rfl, hb⟩
          have HB10 := hidH hb
          rw [H3.out]
          clear hb
          go_wp2_with fail
          go_roundw
          case rel => exact ⟨k + 1, by omega, by rw [show ((k + 1 : Nat) : Int) - 10 = (k : Int) - 10 + 1 by omega], HB10.out⟩
          case measure => simp [intOf]; omega
        · obtain rfl : k = 21 := by omega
          go_wp2_with fail
          refine (mul_any _ ys _ zs wr _ _ _ _ (LQ4.out.below HBq.out) (LP4.out.below HBq.out)).mono ?_; rintro e w5 ⟨ot, rfl, hr, hb⟩
          rw [HMC.out.1] at hr
          rw [HMC.out.2]
          have RO5 := hidH hr
          have HB5 := hidH (HBq.out.trans (hb.mono HBq.out.size))
          clear hb hr
          go_wp2_with fail
          refine (degree_any _ zs w5 _ _ (LP4.out.below HB5.out)).mono ?_; rintro e w6 ⟨rfl, hb⟩
          rw [HDA.out]
          have RO6 := hidH (RO5.out.below hb)
          have HB6 := hidH (HB5.out.trans (hb.mono HB5.out.size))
          clear hb
          go_wp2_with fail
          refine (degree_any _ ys w6 _ _ (LQ4.out.below HB6.out)).mono ?_; rintro e w7 ⟨rfl, hb⟩
          rw [HDB.out]
          have RO7 := hidH (RO6.out.below hb)
          have HB7 := hidH (HB6.out.trans (hb.mono HB6.out.size))
          clear hb
          go_wp2_with fail
          refine (deInts_yes ot _ SL w7 _ _ _ _ RO7.out.lies (RS4.out.below HB7.out).lies).mono ?_; rintro e w8 ⟨rfl, hb⟩
          have HB8 := hidH (HB7.out.trans (hb.mono HB7.out.size))
          have hlsi := HLS.out
          clear hb
          by_cases ha : da < 0
          · go_wp2_with fail
            go_ret
            exact ⟨rfl, B4.out.trans (HB8.out.mono B4.out.size)⟩
          · by_cases hb0 : db < 0
            · go_wp2_with fail
              go_ret
              exact ⟨rfl, B4.out.trans (HB8.out.mono B4.out.size)⟩
            · have hdd : dc = da + db := by rcases HMD.out with h | h | ⟨x, y, h1, h2, h3, h4, h5⟩ <;> omega
              go_wp2_with fail
              refine (degree_any _ SL w8 _ _ (RS4.out.below HB8.out).lies).mono ?_; rintro e w9 ⟨rfl, hb⟩
              rw [HDC.out]
              have HB9 := hidH (HB8.out.trans (hb.mono HB8.out.size))
              clear hb
              subst hdd
              go_wp2_with fail
              go_ret
              exact ⟨rfl, B4.out.trans (HB9.out.mono B4.out.size)⟩
    · rw [he]
      clear he
      generalize mulA zs ys = L at *
      go_wp2_with fail
      refine (deInts_yes q u L w3 _ _ _ _ RS3.out.lies RU3.out.lies).mono ?_; rintro e w4 ⟨rfl, hb⟩
      have HB4 := hidH hb
      clear hb
      go_wp2_with fail
      refine (deInts_yes q u L w4 _ _ _ _ (RS3.out.below HB4.out).lies (RU3.out.below HB4.out).lies).mono ?_; rintro e w5 ⟨rfl, hb⟩
      have HB5 := hidH (HB4.out.trans (hb.mono HB4.out.size))
      clear hb
      go_wp2_with fail
      go_ret
      exact ⟨rfl, B3.out.trans (HB5.out.mono B3.out.size)⟩
end Go.Proofs.Ytgenniaklpheoaa
