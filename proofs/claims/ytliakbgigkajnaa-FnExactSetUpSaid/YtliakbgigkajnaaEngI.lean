/-
  SetUp of the model. No conditions but that slices fit in memory.
-/
import Derived.Test.YtliakbgigkajnaaEngH
import Derived.Test.YtliakbgigkajnaaKitP
import Derived.Deep.AppendLies
namespace Go.Proofs.Ytliakbgigkajnaa
set_option maxRecDepth 4000
set_option linter.unusedVariables false
open Go.RowKit
theorem owns_nilS (w : World) (base e : Nat) : w.ownsRow base e 1 (.slice none 0 0) 0 (intsS []) := ⟨rfl, .inl ⟨rfl, rfl⟩⟩
theorem listL_next (A : Nat → ByteArray × Bool) (n k : Nat) (h : k < n) : (listL A n).take (k + 1) = (listL A n).take k ++ [(A k).1] := by
  rw [List.take_add_one, listL_at A n k h]
  rfl
theorem colR_bad (n wi : Int) (h : decide (1 ≤ wi ∧ wi ≤ 12) = false) : (colR n wi).2 = false := by
  unfold colR
  rw [h]
  rfl
theorem set_bad (qs : List Int) (wi : Int) (h0 : 1 ≤ qs.length) (h : decide (1 ≤ wi ∧ wi ≤ 12) = false) : allA (setC qs wi) qs.length = false := allA_no _ _ 0 (by omega) (colR_bad _ wi h)
theorem sCol_set (qs : List Int) (wi : Int) (i : Nat) (z : Int) (hz : qs[i]? = some z) (w : World) : Calls Try.prog 17 #[.int .i64 z, .int .i64 wi] w (Gives (.tuple #[.string (setC qs wi i).1, .bool (setC qs wi i).2]) w) := by
  have h := sCol_any z wi w
  have e : setC qs wi i = colR z wi := by rw [setC, List.getD_eq_getElem?_getD, hz]; rfl
  rw [colR_is] at h
  rw [e]
  exact h
set_option maxHeartbeats 2000000 in
theorem sSetUp_any (v : Value) (zs : List Int) (n wi : Int) (w : World) (lo hi : Nat) (hv : Lies w lo hi v zs) : Calls Try.prog 5 #[v, .int .i64 n, .int .i64 wi] w (NewEngB (setL zs n wi) (setB zs n wi) w) := by
  have HV := hidH (fun W (h : Lies W lo hi v zs) => sShift_any v zs n W lo hi h)
  have HL := hidH hv
  have BB := hidH (belowN' w (.slice none 0 0))
  have E1 := hidH (EngAt.fresh w (.slice none 0 0))
  have S1 := hidH (show (w.alloc (.cells #[.slice none 0 0] 25)).heap.size = w.heap.size + 1 by simp)
  have HN1 := hidH (setL_no zs n wi)
  have HN2 := hidH (setB_no zs n wi)
  have HY1 := hidH (setL_yes zs n wi)
  have HY2 := hidH (setB_yes zs n wi)
  have HP := hidH (shift_pos zs n)
  have SZ0 := hidH (eng_size (.slice none 0 0))
  clear hv
  generalize setL zs n wi = rs at *
  generalize setB zs n wi = rb at *
  generalize shiftA zs n = qs at *
  generalize shiftB zs n = qb at *
  cases qb
  · obtain rfl := HN1.out rfl
    obtain rfl := HN2.out rfl
    go_enter Try.func5, Try.ntmps5
    go_wp2_with fail
    refine (HV.out _ (HL.out.below BB.out)).mono ?_; rintro e w1 ⟨u, rfl, hr, hb⟩
    have HB1 := hidH (bThen BB.out hb)
    have F1 := hidH (E1.out.below hb)
    clear hb hr
    go_wp2_with (refine wpList_store_row rfl 25 _ _ rfl w.heap.size #[.slice none 0 0] rfl rfl 25 _ F1.out SZ0.out rfl nil_one ?_)
    refine bodyPost_ret (results_engB Try.results5 _ _ w.heap.size _ (.bool false) rfl rfl (F1.out.setRow _)) rfl ?_
    exact ⟨_, rfl, RowS.nil _ _ _ _ _ (Nat.zero_le _) (fun _ => rfl), bRow HB1.out (Nat.le_refl _) _⟩
  · obtain rfl := HY1.out rfl
    obtain rfl := HY2.out rfl
    have ⟨p1, p7⟩ := HP.out rfl
    clear HN1 HN2 HY1 HY2 HP
    cases hwd : decide (1 ≤ wi ∧ wi ≤ 12)
    · have HW := hidH (sWidth_any wi false hwd)
      have HBD := hidH (set_bad qs wi p1 hwd)
      clear hwd
      go_enter Try.func5, Try.ntmps5
      go_wp2_with fail
      refine (HV.out _ (HL.out.below BB.out)).mono ?_; rintro e w1 ⟨u, rfl, hr, hb⟩
      have HB1 := hidH (bThen BB.out hb)
      have F1 := hidH (E1.out.below hb)
      clear hb hr
      go_wp2_with fail
      refine (HW.out _).mono ?_; rintro e w2 ⟨rfl, rfl⟩
      go_wp2_with (refine wpList_store_row rfl 25 _ _ rfl w.heap.size #[.slice none 0 0] rfl rfl 25 _ F1.out SZ0.out rfl nil_one ?_)
      refine bodyPost_ret (results_engB Try.results5 _ _ w.heap.size _ (.bool false) rfl rfl (F1.out.setRow _)) rfl ?_
      rw [listA, HBD.out]
      exact ⟨_, rfl, RowS.nil _ _ _ _ _ (Nat.zero_le _) (fun _ => rfl), bRow HB1.out (Nat.le_refl _) _⟩
    · have HW := hidH (sWidth_any wi true hwd)
      have HCO := hidH (fun i z (hz : qs[i]? = some z) W => sCol_set qs wi i z hz W)
      have HLL := hidH (listL_length (setC qs wi) qs.length)
      obtain ⟨i0, hi0, hz0, hz1, hz2⟩ := info_parts infoText
      clear hwd
      go_enter Try.func5, Try.ntmps5
      go_wp2_with fail
      refine (HV.out _ (HL.out.below BB.out)).mono ?_; rintro e w1 ⟨u, rfl, hr, hb⟩
      obtain ⟨b, cap, rfl, hlc, hcm, hlo, hhi, hB⟩ := hr.blk (by omega)
      have HBK := hidH hB
      have HB1 := hidH (bThen BB.out hb)
      have F1 := hidH (E1.out.below hb)
      have hs1 : w.heap.size + 1 ≤ w1.heap.size := by have := hb.size; rw [S1.out] at this; exact this
      have hbw := hB.1
      unfold maxLen at hcm
      clear hb hr hB
      have G1 := hidH (EngAt.fresh w1 (.slice none 0 0))
      have GB := hidH (belowN' w1 (.slice none 0 0))
      go_wp2_with fail
      refine (HW.out _).mono ?_; rintro e w2 ⟨rfl, rfl⟩
      go_wp2
      go_loopw [11] (fun i wr => ∃ (k : Nat) (ov : Value), k ≤ qs.length ∧ i = .int .i64 k ∧ (∀ j, j < k → (setC qs wi j).2 = true) ∧ EngAt wr w1.heap.size ov ∧ wr.ownsRow (w1.heap.size + 1) 9 1 ov k (intsS ((listL (setC qs wi) qs.length).take k)) ∧ Below w1.heap.size w1 wr) (fun i _ => qs.length - (intOf i).toNat)
      case atStart => exact ⟨0, _, Nat.zero_le _, rfl, fun j hj => absurd hj (Nat.not_lt_zero _), G1.out, by rw [List.take_zero]; exact owns_nilS _ _ _, GB.out⟩
      case round =>
        obtain ⟨k, ov, hk, rfl, hall, hE, hown, hb⟩ := hrel
        have HA := hidH hall
        have HE := hidH hE
        have HO := hidH hown
        have Hb := hidH hb
        have HBW := hidH (bThen HB1.out hb)
        clear hall hE hown hb
        by_cases hlt : k < qs.length
        · obtain ⟨z, hz⟩ := get_lt qs k hlt
          have hcw : wr.cell? ⟨b, k, none⟩ = some (.int .i64 z) := ((HBK.out.below Hb.out).2 k z hz).1
          have HC := hidH (HCO.out k z hz)
          clear hz
          have HNX := hidH (listL_next (setC qs wi) qs.length k hlt)
          cases hok : (setC qs wi k).2
          · rw [hok] at HC
            have HNO := hidH (allA_no (setC qs wi) qs.length k hlt hok)
            clear hok
            generalize (setC qs wi k).1 = x at *
            go_wp2_with fail
            refine (HC.out _).mono ?_; rintro e w2 ⟨rfl, hb2⟩
            have HB2 := hidH (bThen HBW.out hb2)
            have M1 := hidH ((F1.out.below Hb.out).below hb2)
            clear hb2
            go_wp2_with (refine wpList_store_row rfl 25 _ _ rfl w.heap.size #[.slice none 0 0] rfl rfl 25 _ M1.out SZ0.out rfl nil_one ?_)
            refine bodyPost_ret (results_engB Try.results5 _ _ w.heap.size _ (.bool false) rfl rfl (M1.out.setRow _)) rfl ?_
            rw [listA, HNO.out]
            exact ⟨_, rfl, RowS.nil _ _ _ _ _ (Nat.zero_le _) (fun _ => rfl), bRow HB2.out (Nat.le_refl _) _⟩
          · rw [hok] at HC
            have HYS : Hid (∀ j, j < k + 1 → (setC qs wi j).2 = true) := hidH (fun j hj => by
              by_cases e : j = k
              · rw [e]; exact hok
              · exact HA.out j (by omega))
            clear hok
            generalize (setC qs wi k).1 = x at *
            go_wp2_with fail
            refine (HC.out _).mono ?_; rintro e w2 ⟨rfl, hb2⟩
            have E2 := hidH (HE.out.below hb2)
            have O2 := hidH (owns_below HO.out hb2)
            have Hb2 := hidH (Hb.out.trans (hb2.mono (Hb.out.size)))
            have hs2 : w1.heap.size + 1 ≤ w2.heap.size := by have := HE.out.lt; have := hb2.size; omega
            have c2 := E2.out.cell
            have E2a := hidH (E2.out.alloc (.cells #[.string x] 9))
            have c2a := E2a.out.cell
            clear hb2 hcw
            go_wp2_with (at_builtin; refine wpList_append_lies _ rfl _ _ 23 rfl (w1.heap.size + 1) 9 i0 (.string ⟨#[]⟩) 1 16 Try.underlying23 hi0 hz0 hz1 hz2 rfl (by decide) ov k (intsS ((listL (setC qs wi) qs.length).take k)) rfl (O2.out.alloc _) ⟨w2.heap.size, 0, none⟩ 1 1 [.string x] rfl rfl (news_oneS w2 _ _) (one_oneS _) (by decide) (by unfold maxLen; omega) (by omega) (by simp; omega) (w2.heap.size + 1) (by simp) ?_)
            intro g5 cap5 w5 hown1 hgrow _ _
            have HBL := hidH (((Below.refl (w1.heap.size + 1) w2).alloc hs2 (.cells #[.string x] 9)).grown hgrow (by simp; omega) fun g hg => (O2.out.lt g hg).1)
            have E5 := hidH (E2.out.lowB HBL.out (Nat.lt_succ_self _))
            have HO5 := hidH hown1
            have c5 := E5.out.cell
            have f5 := E5.out.free 0
            clear hown1 hgrow c2 c2a
            go_wp2_with fail
            go_roundw
            case rel =>
              refine ⟨k + 1, _, by omega, by go_num, HYS.out, E5.out.put _, ?_, ?_⟩
              · rw [HNX.out, ints_appendS]
                exact owns_onto HO5.out (Onto.setCell w1.heap.size 0 w5 _) (Nat.lt_succ_self _)
              · exact (Hb2.out.trans (HBL.out.mono (Nat.le_succ _))).setCell (Nat.le_refl _) _
            case measure => simp [intOf] <;> omega
        · obtain rfl : k = qs.length := by omega
          have HY := hidH (allA_yes (setC qs wi) qs.length HA.out)
          have hfull : (listL (setC qs wi) qs.length).take qs.length = listL (setC qs wi) qs.length := List.take_of_length_le (by rw [HLL.out]; exact Nat.le_refl _)
          have HRW := hidH (row_of_ownsS (show wr.ownsRow (w1.heap.size + 1) 9 1 ov qs.length (intsS (listL (setC qs wi) qs.length)) by rw [← hfull]; exact HO.out)).1
          obtain ⟨ao, co, rfl⟩ := HRW.out.some
          rw [HLL.out] at *
          have M1 := hidH (F1.out.below Hb.out)
          have SZ := hidH (eng_size (.slice ao qs.length co))
          have SO := hidH (slice_one ao qs.length co)
          clear hfull
          go_wp2_with (first | (refine wpList_load_row rfl 25 _ rfl w1.heap.size rfl 25 _ (0, 0) _ HE.out Try.underlying25 rfl SZ.out ?_) | (refine wpList_store_row rfl 25 _ _ rfl w.heap.size #[.slice ao qs.length co] rfl rfl 25 _ M1.out SZ.out rfl SO.out ?_))
          refine bodyPost_ret (results_engB Try.results5 _ _ w.heap.size _ (.bool true) rfl rfl (M1.out.setRow _)) rfl ?_
          rw [listA, HY.out]
          exact ⟨_, rfl, (HRW.out.apart (Apart.of_onto (lo := w.heap.size) (hi := w.heap.size + 1) (onto_setRow w.heap.size _ _) (Nat.le_refl _) (Nat.lt_succ_self _)) (.inr (by omega))).mono (by omega) (by simp), bRow HBW.out (Nat.le_refl _) _⟩
end Go.Proofs.Ytliakbgigkajnaa
