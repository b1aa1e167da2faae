/-
  DiagnoseSlip: the program, at every argument. No conditions but that slices fit in memory.
-/
import Derived.Test.YtojpnlipfbahdaaErrE
import Derived.Deep.LoopGhost
import Derived.BigRegion
namespace Go.Proofs.Ytojpnlipfbahdaa
set_option maxRecDepth 4000
open Go.RowKit
theorem results_tmp4 {fn : Func} {t u v x : Tmp} (h : fn.results = #[.tmp t, .tmp u, .tmp v, .tmp x]) (tmps : Array Value) (P : Program) (w : World) :
    (results fn tmps).run P w = .ok (.tuple #[tmps.getD t undef, tmps.getD u undef, tmps.getD v undef, tmps.getD x undef]) w := by
  simp [results, h]
theorem effectAt_same (c t n : Nat) (a : Int) (hc : c ≤ 6) (ht : t ≤ 100) (hn : n ≤ 100) (ha : -100000 ≤ a ∧ a ≤ 100000) (w : World) : Calls Try.prog 43 #[.int .i64 c, .int .i64 t, .int .i64 a, .int .i64 n] w fun e w' => e = .returned (.int .i64 (effN c t a n)) ∧ w' = w :=
  (effectAt_any c t n a hc ht hn ha w).mono fun _ _ ⟨a, b⟩ => ⟨a, b.symm⟩
theorem drewN_add (w : World) (a b : Nat) : (w.drewN a).drewN b = w.drewN (a + b) := by simp [World.drewN, Nat.add_assoc]
theorem getD_get {D : List Int} {k : Nat} (h : k < D.length) : D[k]? = some (D.getD k 0) := by
  rw [List.getD_eq_getElem?_getD, List.getElem?_eq_getElem h]; rfl
theorem same_not {D : List Int} {c k : Nat} (hc : c ≤ fnz D) (h1 : fnz D ≤ k) (h2 : k < D.length) (h : D.getD k 0 ≠ effN c (fnz D - c) (D.getD (fnz D) 0) k) : sameC D (fnz D) c = false := by
  cases e : sameC D (fnz D) c
  · rfl
  · exact absurd ((sameC_from D c hc).1 e k h1 h2) h
theorem same_yes {D : List Int} {c : Nat} (hc : c ≤ fnz D) (h : ∀ n, fnz D ≤ n → n < D.length → D.getD n 0 = effN c (fnz D - c) (D.getD (fnz D) 0) n) : sameC D (fnz D) c = true := by
  exact (sameC_from D c hc).2 h
theorem diag_no (v0 : Value) (zs0 : List Int) (v1 : Value) (zs1 : List Int) (w : World) (lo0 hi0 lo1 hi1 : Nat) (hv0 : Lies w lo0 hi0 v0 zs0) (hv1 : Lies w lo1 hi1 v1 zs1) (h : tabsOk zs0 zs1 = false) : Calls Try.prog 16 #[v0, v1] w (Gives4 0 0 0 false w) := by
  have HK := hidH (areTables_any v0 zs0 v1 zs1 w lo0 hi0 lo1 hi1 hv0 hv1)
  have HC0 := hidH h
  clear h hv0 hv1
  go_enter Try.func16, Try.ntmps16
  go_wp2
  go_step3
  go_wp2_with fail
  refine HK.out.mono ?_; rintro e w1 ⟨rfl, hb⟩
  rw [HC0.out]
  go_wp2_with fail
  ((try simp only [Exit.inBlock, Exit.then]); refine bodyPost_ret (results_tmp4 rfl _ _ _) rfl ?_)
  exact ⟨rfl, hb⟩
set_option maxHeartbeats 2000000 in
theorem diag_yes (v0 : Value) (zs0 : List Int) (v1 : Value) (zs1 : List Int) (w : World) (lo0 hi0 lo1 hi1 : Nat) (hv0 : Lies w lo0 hi0 v0 zs0) (hv1 : Lies w lo1 hi1 v1 zs1) (h : tabsOk zs0 zs1 = true) : Calls Try.prog 16 #[v0, v1] w (Gives4 (diagC zs0 zs1) (diagT zs0 zs1) (diagM zs0 zs1) (diagB zs0 zs1) w) := by
  have HK := hidH (areTables_any v0 zs0 v1 zs1 w lo0 hi0 lo1 hi1 hv0 hv1)
  have h' := h
  simp only [tabsOk, Bool.and_eq_true, decide_eq_true_eq] at h'
  obtain ⟨ht0, ht1, hl⟩ := h'
  have ⟨hn1, hn2⟩ := tableOk_len _ ht0
  obtain ⟨b0, off0, cap0, rfl, hlc0, hcm0, _, _, hbw0, hcell0⟩ := hv0.addr (by omega)
  obtain ⟨b1, off1, cap1, rfl, hlc1, hcm1, _, _, hbw1, hcell1⟩ := hv1.addr (by omega)
  unfold maxLen at hcm0 hcm1
  have HC0 := hidH h
  have HCA := hidH hcell0
  have HCB := hidH hcell1
  have HT0 := hidH ht0
  have HT1 := hidH ht1
  have HLN := hidH hl
  obtain ⟨D, hD⟩ : ∃ D, D = wrongL zs0 zs1 := ⟨_, rfl⟩
  have HDL := hidH (show D.length = zs0.length by rw [hD]; exact wrongL_length _ _)
  have HDD := hidH hD
  clear h hv0 hv1 hcell0 hcell1 ht0 ht1 hD hl
  go_enter Try.func16, Try.ntmps16
  go_wp2
  go_step3
  go_wp2_with fail
  refine HK.out.mono ?_; rintro e w1 ⟨rfl, hb⟩
  rw [HC0.out]
  have HB1 := hidH hb
  have hsz1 := hb.size
  clear hb
  have HM := hidH (Blk.made w1 3 zs0.length)
  have hmk := run_make_row' (P := Try.prog) 25 3 (.int .i64 0) 8 Try.underlying25 infoInt rfl .i64 .i64 zs0.length (by omega) (by omega) w1
  go_wp2_with fail
  go_loopw [24] (fun i wr => ∃ k : Nat, k ≤ zs0.length ∧ i = .int .i64 k ∧ Blk wr w1.heap.size (fill D k) ∧ Below w1.heap.size w1 wr) (fun i _ => zs0.length - (intOf i).toNat)
  case atStart => exact ⟨0, Nat.zero_le _, rfl, by have := HM.out; rw [fill_zero, HDL.out]; exact this, (Below.refl _ _).alloc (Nat.le_refl _) _⟩
  case round =>
    obtain ⟨k, hk, rfl, hblk, hb⟩ := hrel
    have HBK := hidH hblk
    have HBq := hidH hb
    clear hblk hb
    by_cases hlt : k < zs0.length
    · obtain ⟨ho, hf⟩ := HBK.out.2 k 0 (fill_at _ _ (by rw [HDL.out]; exact hlt))
      obtain ⟨z, hz⟩ := get_lt zs0 k hlt
      obtain ⟨y, hy⟩ := get_lt zs1 k (by rw [← HLN.out]; exact hlt)
      have ⟨z1, z2⟩ := tab_bd HT0.out hz
      have ⟨y1, y2⟩ := tab_bd HT1.out hy
      have hcz : wr.cell? ⟨b0, off0 + k, none⟩ = some (.int .i64 z) := by rw [HBq.out.cell (p := ⟨b0, off0 + k, none⟩) (by show b0 < w1.heap.size; omega), HB1.out.cell (p := ⟨b0, off0 + k, none⟩) hbw0]; exact HCA.out k z hz
      have hcy : wr.cell? ⟨b1, off1 + k, none⟩ = some (.int .i64 y) := by rw [HBq.out.cell (p := ⟨b1, off1 + k, none⟩) (by show b1 < w1.heap.size; omega), HB1.out.cell (p := ⟨b1, off1 + k, none⟩) hbw1]; exact HCB.out k y hy
      have HG := hidH (fill_set D k _ (by rw [HDD.out]; exact wrongL_get zs0 zs1 k z y hz hy))
      have HST := hidH (HBK.out.set k (y - z))
      have hly : k < zs1.length := by rw [← HLN.out]; exact hlt
      clear hz hy
      have HST2 := hidH (show Blk (wr.setCell ⟨w1.heap.size, k, none⟩ (.int .i64 (y - z))).drew w1.heap.size ((fill D k).set k (y - z)) from HST.out.drewN 1)
      have HBS := hidH (show Below w1.heap.size w1 (wr.setCell ⟨w1.heap.size, k, none⟩ (.int .i64 (y - z))).drew from below_drewN (HBq.out.setCell (Nat.le_refl _) _) 1)
      have hwr : IntKind.i64.wrap (y - z) = y - z := IntWalk.i64_in _ (by omega)
      clear HST HBK HBq
      go_wp2_with fail
      go_region
      go_wp2_with fail
      go_roundw
      case rel => exact ⟨k + 1, by omega, by go_num, by rw [← HG.out]; exact HST2.out, HBS.out⟩
      case measure => simp [intOf]; omega
    · obtain rfl : k = zs0.length := by omega
      have h := HBK.out
      have e := fill_all D
      rw [HDL.out] at e
      rw [e] at h
      have HBD := hidH h
      have HRW := hidH (h.row (lo := w1.heap.size) (hi := wr.heap.size) (cap := zs0.length) (n := zs0.length) (Nat.le_refl _) h.1 (by rw [HDL.out]; exact Nat.le_refl _) (by unfold maxLen; omega) HDL.out.symm)
      clear h e HBK
      have HIX := hidH (indexNz4 _ D wr _ _ HRW.out.lies)
      have HBW := hidH (HB1.out.trans (HBq.out.mono HB1.out.size))
      go_wp2_with fail
      refine HIX.out.mono ?_; rintro e w_ ⟨rfl, rfl⟩
      by_cases hfz : fnz D < zs0.length
      · have HNZ := hidH (show nzI D = (fnz D : Int) by rw [nzI, HDL.out, if_pos hfz])
        rw [HNZ.out]
        obtain ⟨f, hf⟩ : ∃ f, fnz D = f := ⟨_, rfl⟩
        obtain ⟨a, hA⟩ : ∃ a, D.getD f 0 = a := ⟨_, rfl⟩
        have HF := hidH hf
        have HA := hidH hA
        rw [hf] at hfz ⊢
        obtain ⟨hca, hfa⟩ := HBD.out.2 f a (by rw [← hA]; exact getD_get (by rw [HDL.out]; exact hfz))
        clear hf hA hfa
        cases hin : inB 100000 a
        · have HIN := hidH hin
          have HO := hidH (diag_none (zs := zs0) (ys := zs1) (by rw [diagO, ← HDD.out, HF.out, HA.out, hin, Bool.and_false, Bool.and_false]; rfl))
          clear hin
          go_wp2_with fail
          refine (within_any a 100000 (by omega) (by omega) _).mono ?_; rintro e w_ ⟨rfl, rfl⟩
          rw [HIN.out]
          go_wp2_with fail
          ((try simp only [Exit.inBlock, Exit.then]); refine bodyPost_ret (results_tmp4 rfl _ _ _) rfl ?_)
          obtain ⟨e1, e2, e3, e4⟩ := HO.out
          rw [e1, e2, e3, e4]
          exact ⟨rfl, HBW.out⟩
        · have HIN := hidH hin
          have ⟨a1, a2⟩ := of_decide_eq_true hin
          have HO := hidH (show diagO zs0 zs1 = seekC D f (min f 6 + 1) 0 by rw [diagO, ← HDD.out, HF.out, HA.out, hin, HC0.out, decide_eq_true hfz]; rfl)
          clear hin
          go_wp2_with fail
          refine (within_any a 100000 (by omega) (by omega) _).mono ?_; rintro e w_ ⟨rfl, rfl⟩
          rw [HIN.out]
          rcases (show (f ≤ 6 ∧ min f 6 = f) ∨ (6 < f ∧ min f 6 = 6) by omega) with ⟨h6, hm⟩ | ⟨h6, hm⟩
          · rw [hm] at HO
            clear hm
            obtain ⟨wo, rfl⟩ : ∃ wo, wo = wr := ⟨wr, rfl⟩
            have HCW := hidH hca
            have hfl : f < zs0.length := hfz
            clear hca hmk HIX HNZ HM HCA HCB HT0 HT1 HK HLN HC0 HIN HB1 HRW HBq
            go_wp2_with fail
            go_step3
            go_wp2_with fail
            go_loopg [55] (f + 1) (fun g c wx => ∃ k q : Nat, k + g = f + 1 ∧ c = .int .i64 k ∧ Aside (seekC D f g k = seekC D f (f + 1) 0) ∧ wx = wo.drewN q)
            case atStart => exact ⟨0, 0, by omega, rfl, rfl, rfl⟩
            case round =>
              obtain ⟨k, q, hkg, rfl, HSK, rfl⟩ := hrel
              cases gk with
              | zero =>
                have hkz : ¬ ((k : Int) < ((f : Int) + 1)) := by omega
                have HN := hidH (diag_none (zs := zs0) (ys := zs1) (by rw [HO.out, ← HSK.out]; rfl))
                go_wp2_with fail
                try rw [Exit.noGoto_ret]
                ((try simp only [Exit.inBlock, Exit.then]); refine bodyPost_ret (results_tmp4 rfl _ _ _) rfl ?_)
                obtain ⟨e1, e2, e3, e4⟩ := HN.out
                rw [e1, e2, e3, e4]
                exact ⟨rfl, below_drewN HBW.out q⟩
              | succ g =>
                have hkz : (k : Int) < ((f : Int) + 1) := by omega
                have hcw := HCW.out
                obtain ⟨t, ht⟩ : ∃ t, t = f - k := ⟨_, rfl⟩
                have hfk : (f : Int) - (k : Int) = (t : Int) := by omega
                have hfw : IntKind.i64.wrap ((f : Int) - (k : Int)) = (t : Int) := by rw [IntWalk.i64_in _ (by omega)]; exact hfk
                have HSQ := hidH (show seekC D f (g + 1) k = if sameC D f k then some k else seekC D f g (k + 1) from rfl)
                have HTF := hidH ht
                have hkf : k ≤ f := by omega
                have hk6 : k ≤ 6 := by omega
                have ht1 : t ≤ 100 := by omega
                clear ht
                go_wp2_with fail
                go_quiet (fail)
                go_wp2_with fail
                go_loopg [14] (zs0.length - f) (fun g2 n wx => ∃ j q2 : Nat, f ≤ j ∧ j + g2 = zs0.length ∧ n = .int .i64 j ∧ Aside (∀ n, f ≤ n → n < j → D.getD n 0 = effN k t a n) ∧ wx = wo.drewN q2)
                case atStart => exact ⟨f, _, Nat.le_refl _, by omega, rfl, (fun n h1 h2 => by omega), by first | rfl | exact drewN_add _ _ _⟩
                case round =>
                  obtain ⟨j, q2, hfj, hjg, rfl, HJ, rfl⟩ := hrel
                  cases gk with
                  | zero =>
                    have hjz : ¬ ((j : Int) < (zs0.length : Int)) := by omega
                    have HS := hidH (show sameC D f k = true by
                      have := same_yes (D := D) (c := k) (by rw [HF.out]; exact hkf) (fun n h1 h2 => by rw [HF.out] at h1 ⊢; rw [HA.out, ← HTF.out]; exact HJ.out n h1 (by rw [HDL.out] at h2; omega))
                      rw [HF.out] at this; exact this)
                    have HN := hidH (diag_some (zs := zs0) (ys := zs1) (c := k) (by rw [HO.out, ← HSK.out, HSQ.out, HS.out]; rfl))
                    go_wp2_with fail
                    try rw [Exit.noGoto_ret]
                    ((try simp only [Exit.inBlock, Exit.then]); refine bodyPost_ret (results_tmp4 rfl _ _ _) rfl ?_)
                    obtain ⟨e1, e2, e3, e4⟩ := HN.out
                    rw [e1, e2, e3, e4, ← HDD.out, HF.out, HA.out, hfk]
                    exact ⟨rfl, below_drewN HBW.out q2⟩
                  | succ g2 =>
                    have hjz : (j : Int) < (zs0.length : Int) := by omega
                    have hjl : j < zs0.length := by omega
                    obtain ⟨hcj, _⟩ := HBD.out.2 j (D.getD j 0) (getD_get (by rw [HDL.out]; omega))
                    have HE := hidH (fun w => effectAt_same k t j a hk6 ht1 (by omega) ⟨a1, a2⟩ w)
                    by_cases hde : D.getD j 0 = effN k t a j
                    · have HDE := hidH (show ∀ n, n = j → D.getD n 0 = effN k t a n from fun n e => by subst e; exact hde)
                      rw [hde] at hcj
                      generalize effN k t a j = x at *
                      clear hde
                      go_wp2_with fail
                      go_quiet ((go_at_call 43; exact (HE.out _).mono (fun _ _ h => ⟨h.1, _, h.2⟩)))
                      go_wp2_with fail
                      go_roundg g2
                      case measure => omega
                      case rel =>
                        refine ⟨j + 1, _, by omega, by omega, by go_num, (fun n h1 h2 => ?_), by first | rfl | exact drewN_add _ _ _⟩
                        by_cases e : n = j
                        · exact HDE.out n e
                        · exact HJ.out n h1 (by omega)
                    · have HS := hidH (show sameC D f k = false by
                        have := same_not (D := D) (c := k) (k := j) (by rw [HF.out]; exact hkf) (by rw [HF.out]; exact hfj) (by rw [HDL.out]; exact hjl) (by rw [HF.out, HA.out, ← HTF.out]; exact hde)
                        rw [HF.out] at this; exact this)
                      have hb1 : (D.getD j 0 != effN k t a j) = true := bne_iff_ne.2 hde
                      have hb2 : (D.getD j 0 == effN k t a j) = false := beq_eq_false_iff_ne.2 hde
                      generalize effN k t a j = x at *
                      generalize D.getD j 0 = y at *
                      clear hde
                      go_wp2_with fail
                      go_quiet ((go_at_call 43; exact (HE.out _).mono (fun _ _ h => ⟨h.1, _, h.2⟩)))
                      go_wp2_with fail
                      go_roundg g
                      case measure => omega
                      case rel => exact ⟨k + 1, _, by omega, by go_num, (show _ = _ from by rw [← HSK.out, HSQ.out, HS.out]; rfl), by first | rfl | exact drewN_add _ _ _⟩
          · rw [hm] at HO
            clear hm
            obtain ⟨wo, rfl⟩ : ∃ wo, wo = wr := ⟨wr, rfl⟩
            have HCW := hidH hca
            have hfl : f < zs0.length := hfz
            clear hca hmk HIX HNZ HM HCA HCB HT0 HT1 HK HLN HC0 HIN HB1 HRW HBq
            go_wp2_with fail
            go_step3
            go_wp2_with fail
            go_loopg [55] (6 + 1) (fun g c wx => ∃ k q : Nat, k + g = 6 + 1 ∧ c = .int .i64 k ∧ Aside (seekC D f g k = seekC D f (6 + 1) 0) ∧ wx = wo.drewN q)
            case atStart => exact ⟨0, 0, by omega, rfl, rfl, rfl⟩
            case round =>
              obtain ⟨k, q, hkg, rfl, HSK, rfl⟩ := hrel
              cases gk with
              | zero =>
                have hkz : ¬ ((k : Int) < 7) := by omega
                have HN := hidH (diag_none (zs := zs0) (ys := zs1) (by rw [HO.out, ← HSK.out]; rfl))
                go_wp2_with fail
                try rw [Exit.noGoto_ret]
                ((try simp only [Exit.inBlock, Exit.then]); refine bodyPost_ret (results_tmp4 rfl _ _ _) rfl ?_)
                obtain ⟨e1, e2, e3, e4⟩ := HN.out
                rw [e1, e2, e3, e4]
                exact ⟨rfl, below_drewN HBW.out q⟩
              | succ g =>
                have hkz : (k : Int) < 7 := by omega
                have hcw := HCW.out
                obtain ⟨t, ht⟩ : ∃ t, t = f - k := ⟨_, rfl⟩
                have hfk : (f : Int) - (k : Int) = (t : Int) := by omega
                have hfw : IntKind.i64.wrap ((f : Int) - (k : Int)) = (t : Int) := by rw [IntWalk.i64_in _ (by omega)]; exact hfk
                have HSQ := hidH (show seekC D f (g + 1) k = if sameC D f k then some k else seekC D f g (k + 1) from rfl)
                have HTF := hidH ht
                have hkf : k ≤ f := by omega
                have hk6 : k ≤ 6 := by omega
                have ht1 : t ≤ 100 := by omega
                clear ht
                go_wp2_with fail
                go_quiet (fail)
                go_wp2_with fail
                go_loopg [14] (zs0.length - f) (fun g2 n wx => ∃ j q2 : Nat, f ≤ j ∧ j + g2 = zs0.length ∧ n = .int .i64 j ∧ Aside (∀ n, f ≤ n → n < j → D.getD n 0 = effN k t a n) ∧ wx = wo.drewN q2)
                case atStart => exact ⟨f, _, Nat.le_refl _, by omega, rfl, (fun n h1 h2 => by omega), by first | rfl | exact drewN_add _ _ _⟩
                case round =>
                  obtain ⟨j, q2, hfj, hjg, rfl, HJ, rfl⟩ := hrel
                  cases gk with
                  | zero =>
                    have hjz : ¬ ((j : Int) < (zs0.length : Int)) := by omega
                    have HS := hidH (show sameC D f k = true by
                      have := same_yes (D := D) (c := k) (by rw [HF.out]; exact hkf) (fun n h1 h2 => by rw [HF.out] at h1 ⊢; rw [HA.out, ← HTF.out]; exact HJ.out n h1 (by rw [HDL.out] at h2; omega))
                      rw [HF.out] at this; exact this)
                    have HN := hidH (diag_some (zs := zs0) (ys := zs1) (c := k) (by rw [HO.out, ← HSK.out, HSQ.out, HS.out]; rfl))
                    go_wp2_with fail
                    try rw [Exit.noGoto_ret]
                    ((try simp only [Exit.inBlock, Exit.then]); refine bodyPost_ret (results_tmp4 rfl _ _ _) rfl ?_)
                    obtain ⟨e1, e2, e3, e4⟩ := HN.out
                    rw [e1, e2, e3, e4, ← HDD.out, HF.out, HA.out, hfk]
                    exact ⟨rfl, below_drewN HBW.out q2⟩
                  | succ g2 =>
                    have hjz : (j : Int) < (zs0.length : Int) := by omega
                    have hjl : j < zs0.length := by omega
                    obtain ⟨hcj, _⟩ := HBD.out.2 j (D.getD j 0) (getD_get (by rw [HDL.out]; omega))
                    have HE := hidH (fun w => effectAt_same k t j a hk6 ht1 (by omega) ⟨a1, a2⟩ w)
                    by_cases hde : D.getD j 0 = effN k t a j
                    · have HDE := hidH (show ∀ n, n = j → D.getD n 0 = effN k t a n from fun n e => by subst e; exact hde)
                      rw [hde] at hcj
                      generalize effN k t a j = x at *
                      clear hde
                      go_wp2_with fail
                      go_quiet ((go_at_call 43; exact (HE.out _).mono (fun _ _ h => ⟨h.1, _, h.2⟩)))
                      go_wp2_with fail
                      go_roundg g2
                      case measure => omega
                      case rel =>
                        refine ⟨j + 1, _, by omega, by omega, by go_num, (fun n h1 h2 => ?_), by first | rfl | exact drewN_add _ _ _⟩
                        by_cases e : n = j
                        · exact HDE.out n e
                        · exact HJ.out n h1 (by omega)
                    · have HS := hidH (show sameC D f k = false by
                        have := same_not (D := D) (c := k) (k := j) (by rw [HF.out]; exact hkf) (by rw [HF.out]; exact hfj) (by rw [HDL.out]; exact hjl) (by rw [HF.out, HA.out, ← HTF.out]; exact hde)
                        rw [HF.out] at this; exact this)
                      have hb1 : (D.getD j 0 != effN k t a j) = true := bne_iff_ne.2 hde
                      have hb2 : (D.getD j 0 == effN k t a j) = false := beq_eq_false_iff_ne.2 hde
                      generalize effN k t a j = x at *
                      generalize D.getD j 0 = y at *
                      clear hde
                      go_wp2_with fail
                      go_quiet ((go_at_call 43; exact (HE.out _).mono (fun _ _ h => ⟨h.1, _, h.2⟩)))
                      go_wp2_with fail
                      go_roundg g
                      case measure => omega
                      case rel => exact ⟨k + 1, _, by omega, by go_num, (show _ = _ from by rw [← HSK.out, HSQ.out, HS.out]; rfl), by first | rfl | exact drewN_add _ _ _⟩
      · have HNZ := hidH (show nzI D = -1 by rw [nzI, HDL.out, if_neg hfz])
        have HO := hidH (diag_none (zs := zs0) (ys := zs1) (by rw [diagO, ← HDD.out, decide_eq_false hfz, Bool.false_and, Bool.and_false]; rfl))
        rw [HNZ.out]
        go_wp2_with fail
        ((try simp only [Exit.inBlock, Exit.then]); refine bodyPost_ret (results_tmp4 rfl _ _ _) rfl ?_)
        obtain ⟨e1, e2, e3, e4⟩ := HO.out
        rw [e1, e2, e3, e4]
        exact ⟨rfl, HBW.out⟩
theorem diag_any (v0 : Value) (zs0 : List Int) (v1 : Value) (zs1 : List Int) (w : World) (lo0 hi0 lo1 hi1 : Nat) (hv0 : Lies w lo0 hi0 v0 zs0) (hv1 : Lies w lo1 hi1 v1 zs1) : Calls Try.prog 16 #[v0, v1] w (Gives4 (diagC zs0 zs1) (diagT zs0 zs1) (diagM zs0 zs1) (diagB zs0 zs1) w) := by
  cases h : tabsOk zs0 zs1
  · obtain ⟨e1, e2, e3, e4⟩ := diag_none (zs := zs0) (ys := zs1) (by rw [diagO, h]; rfl)
    rw [e1, e2, e3, e4]
    exact diag_no v0 zs0 v1 zs1 w lo0 hi0 lo1 hi1 hv0 hv1 h
  · exact diag_yes v0 zs0 v1 zs1 w lo0 hi0 lo1 hi1 hv0 hv1 h
end Go.Proofs.Ytojpnlipfbahdaa
