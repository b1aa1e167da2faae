/-
  BestSchedule: the model, at every argument. No conditions but that slices fit in memory.
-/
import Derived.Test.YtcinhmfjnjecdaaDskI
import Derived.Deep.LoopGhost
namespace Go.Proofs.Ytcinhmfjnjecdaa
set_option maxRecDepth 4000
open Go.RowKit
/-- What an append of a block's numbers to a new slice reads. -/
theorem news_blk {w : World} {b : Nat} {zs : List Int} (hB : Blk w b zs) (t : Nat) : ∀ (j : Nat) u, (ints zs)[j]? = some u → (w.alloc (.cells #[] t)).cell? ((⟨b, 0, none⟩ : Addr).add j) = some u := fun j u hj => by
  unfold ints at hj
  rw [List.getElem?_map] at hj
  obtain ⟨z, hz, rfl⟩ := Option.map_eq_some_iff.1 hj
  rw [show (⟨b, 0, none⟩ : Addr).add j = ⟨b, j, none⟩ by simp [Addr.add]; omega]
  rw [World.cell?_alloc_past _ _ _ hB.1]
  exact (hB.2 j z hz).1
theorem row_ontoD {w w' : World} {lo hi r : Nat} {v : Value} {zs : List Int} (H : Row w lo hi v zs) (h : Onto r w w') (hr : r < lo) : Row w' lo hi v zs :=
  H.apart (lo := r) (hi := r + 1) (Apart.of_onto h (Nat.le_refl _) (Nat.lt_succ_self _)) (Or.inr hr)
set_option maxHeartbeats 3200000 in
theorem sBestS_yes (v0 : Value) (zs0 : List Int) (m : Nat) (w : World) (hv0 : Lies w 0 w.heap.size v0 zs0) (h1 : timesOk zs0 = true) (hm0 : 0 < m) (hm : m ≤ 3) : Calls Try.prog 15 #[v0, .int .i64 (m : Int)] w (NewRow (bestP zs0 m).2 w) := by
  have HV0 := hidH hv0
  have HT := hidH h1
  have HE := hidH (sEng_any v0 zs0 (m : Int) w _ _ hv0)
  rw [h1, show nEngOk (m : Int) = true from decide_eq_true (by omega), Bool.and_self] at HE
  have ⟨t1, _⟩ := timesOk_parts h1
  obtain ⟨l0, hl0, hbest⟩ := best_start zs0 m hm0 hm h1
  have HBEST := hidH hbest
  have HCH := hidH (show Chain m (List.replicate zs0.length 0 :: l0) by rw [← hl0]; exact chain_all m _ hm0)
  have HMEM := hidH (show ∀ q ∈ List.replicate zs0.length 0 :: l0, q.length = zs0.length ∧ ∀ g ∈ q, 0 ≤ g ∧ g < (m : Int) by rw [← hl0]; exact allS_mem m zs0.length)
  obtain ⟨i0, hi0, hz0, hz1, hz2⟩ := info_parts infoInt
  obtain ⟨a0, cap0, rfl, hlc0, hcm0, _, _⟩ := hv0
  unfold maxLen at hcm0
  have hmk := run_make_row' (P := Try.prog) 23 3 (.int .i64 0) 8 Try.underlying23 infoInt rfl .i64 .i64 zs0.length (by omega) (by omega) w
  have HM := hidH (Blk.made w 3 zs0.length)
  have B1 := hidH ((Below.refl w.heap.size w).alloc (Nat.le_refl _) (.cells (madeCells #[Value.int .i64 0] zs0.length) 3))
  have HNW := hidH (news_blk HM.out 3)
  have HZL : Hid ((List.replicate zs0.length (0 : Int)).length = zs0.length) := by show _ = _; simp
  have HOW := hidH (World.ownsRow_made (base := (w.alloc (.cells (madeCells #[Value.int .i64 0] zs0.length) 3)).heap.size) (e := 3) (size := 1) (w.alloc (.cells (madeCells #[Value.int .i64 0] zs0.length) 3)) #[] 0 (Nat.le_refl _) (Nat.zero_le _) rfl)
  have hs1 : (w.alloc (.cells (madeCells #[Value.int .i64 0] zs0.length) 3)).heap.size = w.heap.size + 1 := by simp
  rw [hs1] at HOW
  clear h1 hbest hl0
  go_enter Try.func15, Try.ntmps15
  go_wp2_with fail
  refine HE.out.mono ?_; rintro e w1 ⟨rfl, rfl⟩
  go_wp2_with (at_builtin; refine wpList_append_own _ rfl _ _ 23 rfl (w.heap.size + 1) 3 i0 (.int .i64 0) 1 8 Try.underlying23 hi0 hz0 hz1 hz2 rfl (by decide) _ _ _ rfl HOW.out ⟨w.heap.size, 0, none⟩ zs0.length zs0.length (ints (List.replicate zs0.length 0)) rfl (by rw [ints_length, Nat.mul_one]; exact HZL.out) (HNW.out) (oneCells _) (by unfold maxLen; omega) (by omega) (by simp) ?_)
  intro v' w3 hown hgrow _
  have HO3 := hidH (row_of_owns hown).1
  have B3a := hidH (((Below.refl _ (w.alloc (.cells (madeCells #[Value.int .i64 0] zs0.length) 3))).alloc (Nat.le_refl _) (.cells #[] 3)).grown hgrow (by simp) (by intro k hk; simp [Value.ownBlock] at hk; simp; omega))
  have HBK3 := hidH (HM.out.below B3a.out)
  have B3 := hidH (bThen B1.out B3a.out)
  clear hown hgrow hmk HNW HM B1
  have HR3 := hidH (HO3.out.mono (l' := w.heap.size + 1) (by omega) (Nat.le_refl _))
  clear HO3 B3a
  obtain ⟨x0, hx0⟩ : ∃ x0, x0 = List.replicate zs0.length (0 : Int) := ⟨_, rfl⟩
  rw [← hx0] at HBEST HCH HMEM HBK3 HR3
  have HX0 := hidH (HMEM.out x0 List.mem_cons_self)
  have HLD := hidH (sLoads_any _ zs0 v' x0 m w3 _ _ _ _ (HV0.out.below B3.out) HR3.out.lies hm HT.out (fun j g hj => HX0.out.2 g (List.mem_of_getElem? hj)) (by rw [HX0.out.1]; exact Nat.le_refl _))
  clear hx0 HX0
  generalize hsp : mostL (loadsL zs0 x0 m) = sp at *
  have HSP := hidH hsp
  clear hsp
  go_wp2_with fail
  refine HLD.out.mono ?_; rintro e w4 ⟨v4, rfl, hr, hb⟩
  have HR4 := hidH hr
  have HBK4 := hidH (HBK3.out.below hb)
  have HR3' := hidH ((HR3.out.below hb).mono (Nat.le_refl _) hb.size)
  have B4 := hidH (bThen B3.out hb)
  clear hr hb HBK3 HR3 HLD B3
  go_wp2_with fail
  refine (sMost_any _ _ w4 _ _ HR4.out.lies).mono ?_; rintro e w5 ⟨rfl, rfl⟩
  rw [HSP.out]
  clear HSP HR4
  go_wp2_with fail
  go_loopg [6, 7] (l0.length) (fun gk bv s wr => ∃ (x : List Int) (l : List (List Int)) (bl : List Int) (sp : Int) (bv' : Value), l.length = gk ∧ Aside (Chain m (x :: l)) ∧ Aside (∀ q ∈ x :: l, q.length = zs0.length ∧ ∀ g ∈ q, 0 ≤ g ∧ g < (m : Int)) ∧ Aside (bestP zs0 m = l.foldl (keepM zs0 m) (sp, bl)) ∧ bv = bv' ∧ s = .int .i64 sp ∧ Blk wr w.heap.size x ∧ Row wr (w.heap.size + 1) wr.heap.size bv' bl ∧ Below w.heap.size w wr)
  case atStart => exact ⟨x0, l0, x0, sp, v', rfl, HCH.out, HMEM.out, HBEST.out, rfl, rfl, HBK4.out, HR3'.out, B4.out⟩
  case round =>
    obtain ⟨x, l, bl, sp, bv', hlg, hch, hmem, hbest, rfl, rfl, hblk, hrow, hb⟩ := hrel
    have HC := hidH hch
    have HMm := hidH hmem
    have HBe := hidH hbest
    have HBK := hidH hblk
    have HRW := hidH hrow
    have HBq := hidH hb
    have HLG := hidH hlg
    clear hch hmem hbest hblk hrow hb hlg HCH HMEM HBEST HBK4 HR3' B4
    have HXx := hidH (HMm.out x List.mem_cons_self)
    cases hnx : nxtS m x with
    | none =>
      have HNX := hidH (sNext8_none w.heap.size zs0.length x m wr HBK.out HXx.out.1 t1 hm HXx.out.2 hnx)
      have HL : Hid (l = []) := chain_none m x l HC.out hnx
      clear hnx
      go_wp2_with fail
      refine HNX.out.mono ?_; rintro e w6 ⟨rfl, ho⟩
      have HO6 := hidH ho
      clear ho
      go_wp2_with fail
      go_ret
      have hE : (bestP zs0 m).2 = bl := by rw [HBe.out, HL.out]; rfl
      rw [hE]
      exact ⟨_, rfl, (row_ontoD HRW.out HO6.out (Nat.lt_succ_self _)).mono (Nat.le_succ _) HO6.out.size, HBq.out.trans (HO6.out.below (Nat.le_refl _) (by have := HBq.out.size; exact this))⟩
    | some y =>
      have HNX := hidH (sNext8_some w.heap.size zs0.length x y m wr HBK.out HXx.out.1 t1 hm HXx.out.2 hnx)
      obtain ⟨l', hl', hch'⟩ := chain_some m x y l HC.out hnx
      have HC' := hidH hch'
      have HL' := hidH hl'
      clear hnx hl' hch'
      have HMm' : Hid (∀ q ∈ y :: l', q.length = zs0.length ∧ ∀ g ∈ q, 0 ≤ g ∧ g < (m : Int)) := fun q hq => HMm.out q (by rw [HL'.out]; exact List.mem_cons_of_mem _ hq)
      have HYy := hidH (HMm'.out y List.mem_cons_self)
      have HBe' : Hid (bestP zs0 m = l'.foldl (keepM zs0 m) (keepM zs0 m (sp, bl) y)) := by
        show bestP zs0 m = _
        rw [HBe.out, HL'.out]; rfl
      cases gk with
      | zero => exact absurd HLG.out (by rw [HL'.out]; simp)
      | succ gk =>
        have HLG' : Hid (l'.length = gk) := by
          show l'.length = gk
          have h := HLG.out
          rw [HL'.out] at h
          simpa using h
        clear HC HMm HBe HLG HL' HXx
        go_wp2_with fail
        refine HNX.out.mono ?_; rintro e w6 ⟨rfl, hby, ho⟩
        have HBK6 := hidH hby
        have HRW6 := hidH ((row_ontoD HRW.out ho (Nat.lt_succ_self _)).mono (Nat.le_refl _) ho.size)
        have B6 := hidH (HBq.out.trans (ho.below (Nat.le_refl _) (by have := HBq.out.size; exact this)))
        clear hby ho HBK HRW HBq HNX
        have hbk6 := HBK6.out.1
        have HLD := hidH (sLoads_any _ zs0 (.slice (some ⟨w.heap.size, 0, none⟩) zs0.length zs0.length) y m w6 _ _ _ _ (HV0.out.below B6.out) (HBK6.out.row (lo := 0) (cap := zs0.length) (Nat.zero_le _) HBK6.out.1 (by rw [HYy.out.1]; exact Nat.le_refl _) (by unfold maxLen; omega) HYy.out.1.symm).lies hm HT.out (fun j g hj => HYy.out.2 g (List.mem_of_getElem? hj)) (by rw [HYy.out.1]; exact Nat.le_refl _))
        have HKE : Hid (keepM zs0 m (sp, bl) y = if mostL (loadsL zs0 y m) < sp then (mostL (loadsL zs0 y m), y) else (sp, bl)) := rfl
        generalize hsp2 : mostL (loadsL zs0 y m) = sp2 at *
        have HSP := hidH hsp2
        clear hsp2
        go_wp2_with fail
        refine HLD.out.mono ?_; rintro e w7 ⟨v7, rfl, hr, hb⟩
        have HR7 := hidH hr
        have HBK7 := hidH (HBK6.out.below hb)
        have HRW7 := hidH ((HRW6.out.below hb).mono (Nat.le_refl _) hb.size)
        have B7 := hidH (bThen B6.out hb)
        clear hr hb HLD HBK6 HRW6 B6 hbk6
        go_wp2_with fail
        refine (sMost_any _ _ w7 _ _ HR7.out.lies).mono ?_; rintro e w8 ⟨rfl, rfl⟩
        rw [HSP.out]
        clear HSP HR7
        by_cases c : sp2 < sp
        · have HK : Hid (keepM zs0 m (sp, bl) y = (sp2, y)) := by show _ = _; rw [HKE.out, if_pos c]
          have HNW := hidH (news_blk HBK7.out 3)
          have hyl := HYy.out.1
          go_wp2_with (at_builtin; refine wpList_append_own _ rfl _ _ 23 rfl w7.heap.size 3 i0 (.int .i64 0) 1 8 Try.underlying23 hi0 hz0 hz1 hz2 rfl (by decide) _ _ _ rfl (World.ownsRow_made w7 #[] 0 (Nat.le_refl _) (Nat.zero_le _) rfl) ⟨w.heap.size, 0, none⟩ zs0.length zs0.length (ints y) rfl (by rw [ints_length, Nat.mul_one]; exact hyl) (HNW.out) (oneCells _) (by unfold maxLen; omega) (by omega) (by simp) ?_)
          intro v9 w9 hown hgrow _
          have HR9 := hidH (row_of_owns hown).1
          have B9a := hidH (((Below.refl _ w7).alloc (Nat.le_refl _) (.cells #[] 3)).grown hgrow (by simp) (by intro k hk; simp [Value.ownBlock] at hk; omega))
          have HBK9 := hidH (HBK7.out.below B9a.out)
          have B9 := hidH (bThen B7.out B9a.out)
          have hs7 := HBK7.out.1
          clear hown hgrow HNW HBK7 HRW7 B7 B9a hyl
          go_wp2_with fail
          go_roundg gk
          case measure => omega
          case rel => exact ⟨y, l', y, sp2, v9, HLG'.out, HC'.out, HMm'.out, by rw [← HK.out]; exact HBe'.out, rfl, rfl, HBK9.out, HR9.out.mono hs7 (Nat.le_refl _), B9.out⟩
        · have HK : Hid (keepM zs0 m (sp, bl) y = (sp, bl)) := by show _ = _; rw [HKE.out, if_neg c]
          have c' : decide (sp2 < sp) = false := decide_eq_false c
          go_wp2_with fail
          go_roundg gk
          case measure => omega
          case rel => exact ⟨y, l', bl, sp, _, HLG'.out, HC'.out, HMm'.out, by rw [← HK.out]; exact HBe'.out, rfl, rfl, HBK7.out, HRW7.out, B7.out⟩
theorem sBestS_any (v0 : Value) (zs0 : List Int) (n : Int) (w : World) (hv0 : Lies w 0 w.heap.size v0 zs0) : Calls Try.prog 15 #[v0, .int .i64 n] w (NewRow (bestA zs0 n) w) := by
  cases h1 : timesOk zs0 && nEngOk n
  · have HE := hidH (sEng_any v0 zs0 n w _ _ hv0)
    have HR := hidH (bestA_no h1)
    rw [h1] at HE
    clear h1
    have HB0 := hidH (bMore (Below.refl w.heap.size w) (.cells #[] 3))
    have HO' := hidH (row_of_owns (show (w.alloc (.cells #[] 3)).ownsRow w.heap.size 3 1 (.slice (some ⟨w.heap.size, 0, none⟩) 0 0) ([] : List Int).length (ints []) from World.ownsRow_made (base := w.heap.size) (e := 3) (size := 1) w #[] 0 (Nat.le_refl _) (Nat.zero_le _) rfl))
    obtain ⟨a0, cap0, rfl, hlc0, hcm0, _, _⟩ := hv0
    go_enter Try.func15, Try.ntmps15
    go_wp2_with fail
    refine HE.out.mono ?_; rintro e w1 ⟨rfl, rfl⟩
    go_wp2_with fail
    go_ret
    rw [HR.out]
    exact ⟨_, rfl, HO'.out.1, HB0.out⟩
  · rw [Bool.and_eq_true] at h1
    have ⟨n1, n2⟩ := of_decide_eq_true h1.2
    obtain ⟨m, rfl⟩ : ∃ m : Nat, n = (m : Int) := ⟨n.toNat, by omega⟩
    rw [bestA_yes h1.1 h1.2, Int.toNat_natCast]
    exact sBestS_yes v0 zs0 m w hv0 h1.1 (by omega) (by omega)
end Go.Proofs.Ytcinhmfjnjecdaa
