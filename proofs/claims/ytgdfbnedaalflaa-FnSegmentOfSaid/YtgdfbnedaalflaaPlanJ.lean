/-
  The walk of a law: a segment has as values the entries of the table, and a polynomial of at most the degree. No conditions but that the bytes that came in can be read.
-/
import Derived.Test.YtgdfbnedaalflaaPlanI
import Derived.Test.YtgdfbnedaalflaaPlanD
import Derived.Test.YtgdfbnedaalflaaPolyLc
import Derived.Test.YtgdfbnedaalflaaDeFns
import Derived.Deep.RegionHeld3
namespace Go.Proofs.Ytgdfbnedaalflaa
set_option maxRecDepth 4000
open Go.RowKit
theorem evA_run (P : List Int) (n : Nat) (hp : polyOk P = true) (hn : n ≤ 200) : evA P n = evP P n := by
  unfold evA
  rw [hp, Bool.true_and, if_pos]
  unfold inB
  simp
  omega
/-- The polynomial of a segment has its entries as values. -/
theorem seg_vals (zs : List Int) (f c d : Int) (h : segB zs f c d = true) : ∃ k n : Nat, f = (k : Int) ∧ c = (n : Int) ∧ 1 ≤ n ∧ k + n ≤ zs.length ∧ zs.length ≤ 60 ∧ (∀ i z, i < n → zs[k + i]? = some z → evA (interA (segZ zs f c)) (i : Nat) = z) ∧ degL (interA (segZ zs f c)) ≤ d ∧ -1 ≤ degL (interA (segZ zs f c)) ∧ degL (interA (segZ zs f c)) ≤ 6 ∧ (interA (segZ zs f c)).length ≤ n ∧ 1 ≤ (interA (segZ zs f c)).length := by
  unfold segB at h
  simp only [Bool.and_eq_true] at h
  obtain ⟨hs, ha, hc, hd, hr⟩ := h
  have ⟨a1, a2⟩ := of_decide_eq_true ha
  have ⟨c1, c2⟩ := of_decide_eq_true hc
  have ⟨z1, z60, _⟩ := (small_iff zs).1 hs
  have hlen : (segZ zs f c).length = c.toNat := by unfold segZ; rw [List.length_take, List.length_drop]; omega
  unfold runB at hr
  rw [Bool.and_eq_true] at hr
  obtain ⟨hl, hi⟩ := hr
  have hl := of_decide_eq_true hl
  obtain ⟨T, P, e, eT, hT7, hPl, hPok, hdeg, hvals, _, hV60⟩ := inter_yes (segZ zs f c) hi
  have hio : interOk (segZ zs f c) = true := by unfold interB at hi; rw [Bool.and_eq_true] at hi; exact hi.1
  obtain ⟨_, _, _, g1, g2, g3, g4, g5, g6⟩ := inter_bd (segZ zs f c) hio
  refine ⟨f.toNat, c.toNat, by omega, by omega, by omega, by omega, z60, fun i z hi2 hz => ?_, by rw [e, hdeg]; omega, by rw [e, hdeg]; omega, by rw [e, hdeg]; omega, ?_, by rw [e, hPl]; omega⟩
  · rw [e, evA_run P i hPok (by omega)]
    have h1 := hvals i (by rw [hlen]; exact hi2)
    have h2 : (segZ zs f c)[i]? = some z := by unfold segZ; rw [List.getElem?_take, if_pos hi2, List.getElem?_drop]; exact hz
    rw [h2] at h1
    injection h1 with h1
    exact h1.symm
  · rw [e, hPl]
    by_cases hq : leastL (segZ zs f c) + 1 ≤ 1
    · have := g5 hq; omega
    · have := g6 (by omega); omega
set_option maxHeartbeats 4000000 in
theorem lawSegmentOf (a : Option Addr) (len cap : Nat) (w : World) (hc : Came w a len cap) : Calls Try.prog 4 #[.slice a len cap] w (Gives (.bool true) w) := by
  have hcap := hc.lenLe
  have hcap2 := hc.capLe
  unfold maxLen at hcap2
  by_cases hbig : 1048576 < len
  · clear hc
    go_enter Try.func4, Try.ntmps4
    go_wp2
    go_ret
    exact ⟨rfl, Below.refl _ _⟩
  have HD := hidH (drawSegmentOf a len cap w hc (by omega))
  clear hc
  go_enter Try.func4, Try.ntmps4
  go_wp2_with fail
  refine HD.out.mono ?_
  rintro e w1 ⟨v, zs, f, c, d, rfl, hv, h61, hB⟩
  have V_0 := hidH hv
  have B_0 := hidH hB
  have S_0 := hidH (Nat.le_refl w1.heap.size)
  obtain ⟨av, cv, rfl⟩ := hv.some
  obtain ⟨_, _, e, hlv, hcv, _, hcell⟩ := hv
  injection e with e1 e2 e3
  subst e1; subst e3
  have HCV := hidH hcell
  unfold maxLen at hcv
  clear hB HD hcell
  cases hok : segB zs f c d
  · have HN := hidH (seg_no zs f c d hok)
    have EC := hidH HN.out.1
    have EP := hidH HN.out.2
    have EB := hidH hok
    clear hok
    go_wp2_with fail
    refine (segOf_any (.slice av zs.length cv) zs f c d _ _ _ V_0.out).mono ?_; rintro e w2 ⟨g, rfl, hr, hb⟩
    have B_1 := hidH (bThen B_0.out hb)
    have V_1 := hidH (V_0.out.below hb)
    have S_1 := hidH hb.size
    have G_1 := hidH hr
    clear hb hr
    clear B_0 V_0
    rw [EB.out]
    rw [EP.out] at G_1
    rw [EC.out]
    obtain ⟨ga, gc, rfl⟩ := G_1.out.some
    have B_2 := hidH (bMore B_1.out (.cells #[.int .i64 0, .slice ga 0 gc] 32))
    have S_2 : Hid (w2.heap.size + 1 ≤ (w2.alloc (.cells #[.int .i64 0, .slice ga 0 gc] 32)).heap.size) := hidH (by simp)
    have V_2 := hidH (V_1.out.below (bMore (Below.refl _ _) (.cells #[.int .i64 0, .slice ga 0 gc] 32)))
    have G_2 := hidH (G_1.out.below (bMore (Below.refl _ _) (.cells #[.int .i64 0, .slice ga 0 gc] 32)))
    have EG_2 := hidH (SegAt.fresh w2 0 (.slice ga 0 gc))
    clear B_1 V_1 G_1
    go_wp2_with fail
    refine (sSegOf_any (.slice av zs.length cv) zs f c d _ _ _ V_2.out).mono ?_; rintro e w3 ⟨u, rfl, hr, hb⟩
    have B_3 := hidH (bThen B_2.out hb)
    have V_3 := hidH (V_2.out.below hb)
    have G_3 := hidH (G_2.out.below hb)
    have EG_3 := hidH (EG_2.out.below hb)
    have S_3 := hidH hb.size
    have W_3 := hidH hr
    clear hb hr
    clear B_2 V_2 G_2 EG_2
    rw [EB.out]
    rw [EP.out] at W_3
    rw [EC.out]
    obtain ⟨ua, uc, rfl⟩ := W_3.out.some
    have B_4 := hidH (bMore B_3.out (.cells #[.int .i64 0, .slice ua 0 uc] 32))
    have S_4 : Hid (w3.heap.size + 1 ≤ (w3.alloc (.cells #[.int .i64 0, .slice ua 0 uc] 32)).heap.size) := hidH (by simp)
    have V_4 := hidH (V_3.out.below (bMore (Below.refl _ _) (.cells #[.int .i64 0, .slice ua 0 uc] 32)))
    have G_4 := hidH (G_3.out.below (bMore (Below.refl _ _) (.cells #[.int .i64 0, .slice ua 0 uc] 32)))
    have W_4 := hidH (W_3.out.below (bMore (Below.refl _ _) (.cells #[.int .i64 0, .slice ua 0 uc] 32)))
    have EG_4 := hidH (EG_3.out.below (bMore (Below.refl _ _) (.cells #[.int .i64 0, .slice ua 0 uc] 32)))
    have EW_4 := hidH (SegAt.fresh w3 0 (.slice ua 0 uc))
    clear B_3 V_3 G_3 W_3 EG_3
    have cG0 := EG_4.out.cell0
    have cG1 := EG_4.out.cell1
    have cW0 := EW_4.out.cell0
    have cW1 := EW_4.out.cell1
    go_wp2_with fail
    refine (deInts_yes _ _ [] _ _ _ _ _ G_4.out.lies W_4.out.lies).mono ?_; rintro e w4 ⟨rfl, hb⟩
    have B_5 := hidH (bThen B_4.out hb)
    have V_5 := hidH (V_4.out.below hb)
    have G_5 := hidH (G_4.out.below hb)
    have W_5 := hidH (W_4.out.below hb)
    have EG_5 := hidH (EG_4.out.below hb)
    have EW_5 := hidH (EW_4.out.below hb)
    have S_5 := hidH hb.size
    clear hb
    clear B_4 V_4 G_4 W_4 EG_4 EW_4
    clear cG0 cG1 cW0 cW1
    have cG0 := EG_5.out.cell0
    have cG1 := EG_5.out.cell1
    have cW0 := EW_5.out.cell0
    have cW1 := EW_5.out.cell1
    go_wp2_with fail
    refine (deInts_yes _ _ [] _ _ _ _ _ G_5.out.lies W_5.out.lies).mono ?_; rintro e w5 ⟨rfl, hb⟩
    have B_6 := hidH (bThen B_5.out hb)
    have V_6 := hidH (V_5.out.below hb)
    have G_6 := hidH (G_5.out.below hb)
    have W_6 := hidH (W_5.out.below hb)
    have EG_6 := hidH (EG_5.out.below hb)
    have EW_6 := hidH (EW_5.out.below hb)
    have S_6 := hidH hb.size
    clear hb
    clear B_5 V_5 G_5 W_5 EG_5 EW_5
    clear cG0 cG1 cW0 cW1
    go_wp2_with fail
    go_ret
    exact ⟨rfl, B_6.out⟩
  · have HN := hidH (seg_yes zs f c d hok)
    have EC := hidH HN.out.1
    have EP := hidH HN.out.2
    have EB := hidH hok
    obtain ⟨k0, cn, rfl, rfl, hc1, hkc, hz60, hev, hg1, hg2, hg3, hpl, hp1⟩ := seg_vals zs f c d hok
    have HEV := hidH hev
    clear hok hev
    generalize interA (segZ zs k0 cn) = ps at *
    go_wp2_with fail
    refine (segOf_any (.slice av zs.length cv) zs k0 cn d _ _ _ V_0.out).mono ?_; rintro e w2 ⟨g, rfl, hr, hb⟩
    have B_1 := hidH (bThen B_0.out hb)
    have V_1 := hidH (V_0.out.below hb)
    have S_1 := hidH hb.size
    have G_1 := hidH hr
    clear hb hr
    clear B_0 V_0
    rw [EB.out]
    rw [EP.out] at G_1
    rw [EC.out]
    obtain ⟨ga, gc, rfl⟩ := G_1.out.some
    have B_2 := hidH (bMore B_1.out (.cells #[.int .i64 (cn : Int), .slice ga ps.length gc] 32))
    have S_2 : Hid (w2.heap.size + 1 ≤ (w2.alloc (.cells #[.int .i64 (cn : Int), .slice ga ps.length gc] 32)).heap.size) := hidH (by simp)
    have V_2 := hidH (V_1.out.below (bMore (Below.refl _ _) (.cells #[.int .i64 (cn : Int), .slice ga ps.length gc] 32)))
    have G_2 := hidH (G_1.out.below (bMore (Below.refl _ _) (.cells #[.int .i64 (cn : Int), .slice ga ps.length gc] 32)))
    have EG_2 := hidH (SegAt.fresh w2 (cn : Int) (.slice ga ps.length gc))
    clear B_1 V_1 G_1
    go_wp2_with fail
    refine (sSegOf_any (.slice av zs.length cv) zs k0 cn d _ _ _ V_2.out).mono ?_; rintro e w3 ⟨u, rfl, hr, hb⟩
    have B_3 := hidH (bThen B_2.out hb)
    have V_3 := hidH (V_2.out.below hb)
    have G_3 := hidH (G_2.out.below hb)
    have EG_3 := hidH (EG_2.out.below hb)
    have S_3 := hidH hb.size
    have W_3 := hidH hr
    clear hb hr
    clear B_2 V_2 G_2 EG_2
    rw [EB.out]
    rw [EP.out] at W_3
    rw [EC.out]
    obtain ⟨ua, uc, rfl⟩ := W_3.out.some
    have B_4 := hidH (bMore B_3.out (.cells #[.int .i64 (cn : Int), .slice ua ps.length uc] 32))
    have S_4 : Hid (w3.heap.size + 1 ≤ (w3.alloc (.cells #[.int .i64 (cn : Int), .slice ua ps.length uc] 32)).heap.size) := hidH (by simp)
    have V_4 := hidH (V_3.out.below (bMore (Below.refl _ _) (.cells #[.int .i64 (cn : Int), .slice ua ps.length uc] 32)))
    have G_4 := hidH (G_3.out.below (bMore (Below.refl _ _) (.cells #[.int .i64 (cn : Int), .slice ua ps.length uc] 32)))
    have W_4 := hidH (W_3.out.below (bMore (Below.refl _ _) (.cells #[.int .i64 (cn : Int), .slice ua ps.length uc] 32)))
    have EG_4 := hidH (EG_3.out.below (bMore (Below.refl _ _) (.cells #[.int .i64 (cn : Int), .slice ua ps.length uc] 32)))
    have EW_4 := hidH (SegAt.fresh w3 (cn : Int) (.slice ua ps.length uc))
    clear B_3 V_3 G_3 W_3 EG_3
    have cG0 := EG_4.out.cell0
    have cG1 := EG_4.out.cell1
    have cW0 := EW_4.out.cell0
    have cW1 := EW_4.out.cell1
    go_wp2_with fail
    refine (deInts_yes _ _ ps _ _ _ _ _ G_4.out.lies W_4.out.lies).mono ?_; rintro e w4 ⟨rfl, hb⟩
    have B_5 := hidH (bThen B_4.out hb)
    have V_5 := hidH (V_4.out.below hb)
    have G_5 := hidH (G_4.out.below hb)
    have W_5 := hidH (W_4.out.below hb)
    have EG_5 := hidH (EG_4.out.below hb)
    have EW_5 := hidH (EW_4.out.below hb)
    have S_5 := hidH hb.size
    clear hb
    clear B_4 V_4 G_4 W_4 EG_4 EW_4
    clear cG0 cG1 cW0 cW1
    obtain ⟨vb, vo, vc, e, _, _, _, _, _, _⟩ := V_5.out.addr (by omega)
    injection e with e1 e2 e3
    subst e1; subst e3
    have cG0 := EG_5.out.cell0
    have cG1 := EG_5.out.cell1
    have cW0 := EW_5.out.cell0
    have cW1 := EW_5.out.cell1
    have HGL := hidH EG_5.out.lt
    go_wp2_with fail
    clear cG0 cG1 cW0 cW1
    go_loopw [11] (fun i wr => ∃ q : Nat, q ≤ cn ∧ i = .int .i64 q ∧ Below w4.heap.size w4 wr) (fun i _ => cn - (intOf i).toNat)
    case atStart => exact ⟨0, Nat.zero_le _, rfl, Below.refl _ _⟩
    case round =>
      obtain ⟨q, hq, rfl, hb⟩ := hrel
      have HB := hidH hb
      clear hb
      have EGq := hidH (EG_5.out.below HB.out)
      have hgs := EGq.out.cell1
      have hgc := EGq.out.cell0
      have GQ := hidH (G_5.out.below HB.out)
      by_cases hlt : q < cn
      · obtain ⟨z, hz⟩ := get_lt zs (k0 + q) (by omega)
        have hev := HEV.out q z hlt hz
        have HAT := hidH fun (W : World) (hb : Below wr.heap.size wr W) => (at_any (.slice ga ps.length gc) ps (q : Nat) W _ _ (GQ.out.below hb).lies).mono fun e w' (h : Gives _ W e w') => (⟨by rw [h.1, hev], hb.trans (h.2.mono hb.size)⟩ : e = .returned (.int .i64 z) ∧ Below wr.heap.size wr w')
        have VQ := hidH (V_5.out.below HB.out)
        obtain ⟨_, _, _, e, _, _, _, _, hvlt, hcellq⟩ := VQ.out.addr (by omega)
        injection e with e1 e2 e3
        injection e1 with e1
        injection e1 with e1 e4
        subst e1; subst e4
        clear e2 e3
        have hcz0 := hcellq _ z hz
        obtain ⟨m, hkm, hkm2, hml⟩ : ∃ m : Nat, IntKind.i64.wrap ((k0 : Int) + (q : Int)) = (m : Int) ∧ k0 + q = m ∧ m < zs.length := ⟨k0 + q, by rw [show (k0 : Int) + (q : Int) = ((k0 + q : Nat) : Int) by omega]; exact IntWalk.i64_in _ (by omega), rfl, by omega⟩
        rw [hkm2] at hcz0
        have hcz : wr.cell? ⟨vb, vo + m, none⟩ = some (.int .i64 z) := hcz0
        have HCZ := hidH hcz0
        have HGS := hidH hgs
        have hgl : w2.heap.size < wr.heap.size := EGq.out.lt
        have HBc := hidH (Below.refl wr.heap.size wr)
        clear hz hev hcellq hcz0 VQ hgc hkm2
        go_wp2_with fail
        first | (go_region_held3 (fun w' => w'.cell? ⟨w2.heap.size, 1, none⟩ = some (.slice ga ps.length gc) ∧ w'.cell? ⟨vb, vo + m, none⟩ = some (.int .i64 z))
          (first | exact ⟨hgs, hcz⟩ | go_keep)
          (first
            | (go_at_call 15; (with_reducible refine (HAT.out _ (by first | exact HBc.out | exact HBc.out.drew)).mono ?_); rintro e wd ⟨rfl, hbd⟩; have HBc := hidH hbd; have hgs : wd.cell? ⟨w2.heap.size, 1, none⟩ = some (.slice ga ps.length gc) := (by rw [HBc.out.cell (p := ⟨w2.heap.size, 1, none⟩) hgl]; exact HGS.out); have hcz : wd.cell? ⟨vb, vo + m, none⟩ = some (.int .i64 z) := (by rw [HBc.out.cell (p := ⟨vb, vo + m, none⟩) hvlt]; exact HCZ.out); clear hbd))) | fail
        all_goals (
          clear hgs hcz
          go_wp2_with fail
          go_roundw
          case rel => exact ⟨q + 1, by omega, by go_num, HB.out.trans (HBc.out.mono HB.out.size)⟩
          case measure => simp [intOf]; omega)
      · obtain rfl : q = cn := by omega
        have HDG := hidH (degree_any (.slice ga ps.length gc) ps wr _ _ GQ.out.lies)
        generalize degL ps = dg at *
        have hplz : (ps.length : Int) ≤ (q : Int) := by omega
        clear hlt
        go_wp2_with fail
        refine HDG.out.mono ?_; rintro e w9 ⟨rfl, hb⟩
        have hgs9 := (EGq.out.below hb).cell1
        have HB9 := hidH (HB.out.trans (hb.mono HB.out.size))
        clear hb hgs hgc
        go_wp2_with fail
        go_ret
        exact ⟨rfl, B_5.out.trans (HB9.out.mono B_5.out.size)⟩
end Go.Proofs.Ytgdfbnedaalflaa
