/-
  SetUp: the program and the model. No conditions but that slices fit in memory.
  SetUp of the model. No conditions but that slices fit in memory.
-/
import Derived.Test.YtcinhmfjnjecdaaEngF
import Derived.Test.YtcinhmfjnjecdaaPolyFa
import Derived.Test.YtcinhmfjnjecdaaSpecA
import Derived.Deep.RegionHeld3
import Derived.Test.YtcinhmfjnjecdaaKitP
import Derived.Deep.AppendLies
namespace Go.Proofs.Ytcinhmfjnjecdaa
set_option maxRecDepth 4000
set_option linter.unusedVariables false
open Go.RowKit
/-- The column for the difference of an index. -/
def setC (qs : List Int) (wi : Int) (i : Nat) : ByteArray × Bool := colR (qs.getD i 0) wi
/-- The columns that SetUp answers. -/
def setL (zs : List Int) (n wi : Int) : List ByteArray := if shiftB zs n then listA (setC (shiftA zs n) wi) (shiftA zs n).length else []
/-- Whether SetUp answers an engine. -/
def setB (zs : List Int) (n wi : Int) : Bool := shiftB zs n && allA (setC (shiftA zs n) wi) (shiftA zs n).length
theorem setL_no (zs : List Int) (n wi : Int) (h : shiftB zs n = false) : setL zs n wi = [] := by rw [setL, h]; rfl
theorem setB_no (zs : List Int) (n wi : Int) (h : shiftB zs n = false) : setB zs n wi = false := by rw [setB, h]; rfl
theorem setL_yes (zs : List Int) (n wi : Int) (h : shiftB zs n = true) : setL zs n wi = listA (setC (shiftA zs n) wi) (shiftA zs n).length := by rw [setL, h]; rfl
theorem setB_yes (zs : List Int) (n wi : Int) (h : shiftB zs n = true) : setB zs n wi = allA (setC (shiftA zs n) wi) (shiftA zs n).length := by rw [setB, h]; rfl
theorem shift_pos (zs : List Int) (n : Int) (h : shiftB zs n = true) : 1 ≤ (shiftA zs n).length ∧ (shiftA zs n).length ≤ 7 := by
  unfold shiftB at h
  rw [Bool.and_eq_true] at h
  unfold shiftA
  rw [h.1, if_pos rfl, resL, h.2, if_pos rfl]
  have := polyOk_small _ h.2
  exact ⟨this.1, this.2.1⟩
theorem setL_len (zs : List Int) (n wi : Int) : (setL zs n wi).length ≤ 1048576 := by
  unfold setL
  split
  · rename_i h
    have := listA_len (setC (shiftA zs n) wi) (shiftA zs n).length
    have := (shift_pos zs n h).2
    omega
  · simp
theorem setAt_any (qs : List Int) (wi : Int) (b off cap p1 p2 i : Nat) (w : World) (hi : i < qs.length) (hlc : qs.length ≤ cap) (hcm : cap ≤ 9223372036854775807)
    (hb1 : w.cell? ⟨p1, 0, none⟩ = some (.slice (some ⟨b, off, none⟩) qs.length cap)) (hb2 : w.cell? ⟨p2, 0, none⟩ = some (.int .i64 wi)) (hc : w.cell? ⟨b, off + i, none⟩ = some (.int .i64 (qs.getD i 0))) :
    Calls Try.prog 68 #[.int .i64 i, .pointer (some ⟨p1, 0, none⟩), .pointer (some ⟨p2, 0, none⟩)] w (Gives (.tuple #[.string (setC qs wi i).1, .bool (setC qs wi i).2]) w) := by
  have HC := hidH (fun W => col_any (qs.getD i 0) wi W)
  rw [colR_is] at HC
  have HX := hidH (show setC qs wi i = colR (qs.getD i 0) wi from rfl)
  generalize setC qs wi i = s at *
  rw [← HX.out] at HC
  clear HX
  generalize qs.getD i 0 = z at *
  obtain ⟨x, y⟩ := s
  have HB1 := hidH hb1
  have HB2 := hidH hb2
  have HCC := hidH hc
  go_enter Try.func68, Try.ntmps68
  go_wp2_with fail
  go_region_held3 (fun w' => w'.cell? ⟨p1, 0, none⟩ = some (.slice (some ⟨b, off, none⟩) qs.length cap) ∧ w'.cell? ⟨p2, 0, none⟩ = some (.int .i64 wi) ∧ w'.cell? ⟨b, off + i, none⟩ = some (.int .i64 z)) (first | exact ⟨hb1, hb2, hc⟩ | exact ⟨q1, q2, q3⟩)
    (first | (go_at_call 69; (with_reducible refine (HC.out _).mono ?_); rintro e w2 ⟨rfl, hbw⟩; (have HBD := hidH (bDrew' hbw)); (have q1 : w2.cell? ⟨p1, 0, none⟩ = some (.slice (some ⟨b, off, none⟩) qs.length cap) := by rw [HBD.out.cell (p := ⟨p1, 0, none⟩) (cell_blk _ _ _ hb1)]; exact hb1); (have q2 : w2.cell? ⟨p2, 0, none⟩ = some (.int .i64 wi) := by rw [HBD.out.cell (p := ⟨p2, 0, none⟩) (cell_blk _ _ _ hb2)]; exact hb2); (have q3 : w2.cell? ⟨b, off + i, none⟩ = some (.int .i64 z) := by rw [HBD.out.cell (p := ⟨b, off + i, none⟩) (cell_blk _ _ _ hc)]; exact hc); clear hbw))
  all_goals
    go_wp2
    go_ret2
    exact ⟨rfl, HBD.out⟩
theorem setUp_any (v : Value) (zs : List Int) (n wi : Int) (w : World) (lo hi : Nat) (hv : Lies w lo hi v zs) : Calls Try.prog 48 #[v, .int .i64 n, .int .i64 wi] w (NewEngB (setL zs n wi) (setB zs n wi) w) := by
  have HV := hidH (fun W (h : Lies W lo hi v zs) => shift_any v zs n W lo hi h)
  have HL := hidH hv
  have BB := hidH (bMore (bMore (Below.refl w.heap.size w) (.cells #[.int .i64 wi] 3)) (.cells #[.slice none 0 0] 62))
  have E2 := hidH (EngAt.newAt (w.alloc (.cells #[.int .i64 wi] 3)) (.slice none 0 0) (w.heap.size + 1) (by simp))
  have hW0 : ((w.alloc (.cells #[.int .i64 wi] 3)).alloc (.cells #[.slice none 0 0] 62)).cell? ⟨w.heap.size, 0, none⟩ = some (.int .i64 wi) := by
    rw [(bMore (Below.refl (w.alloc (.cells #[.int .i64 wi] 3)).heap.size _) (.cells #[.slice none 0 0] 62)).cell (p := ⟨w.heap.size, 0, none⟩) (by simp)]
    simp
  have W0 := hidH hW0
  have S2 := hidH (show ((w.alloc (.cells #[.int .i64 wi] 3)).alloc (.cells #[.slice none 0 0] 62)).heap.size = w.heap.size + 2 by simp)
  have HN1 := hidH (setL_no zs n wi)
  have HN2 := hidH (setB_no zs n wi)
  have HY1 := hidH (setL_yes zs n wi)
  have HY2 := hidH (setB_yes zs n wi)
  have HP := hidH (shift_pos zs n)
  clear hv hW0
  generalize setL zs n wi = rs at *
  generalize setB zs n wi = rb at *
  generalize shiftA zs n = qs at *
  generalize shiftB zs n = qb at *
  cases qb
  · obtain rfl := HN1.out rfl
    obtain rfl := HN2.out rfl
    have SZ := hidH (eng_size (.slice none 0 0))
    go_enter Try.func48, Try.ntmps48
    go_wp2_with fail
    refine (HV.out _ (HL.out.below BB.out)).mono ?_; rintro e w1 ⟨u, rfl, hr, hb⟩
    obtain ⟨au, cu, rfl, _⟩ := hr
    have HB1 := hidH (bMore (bThen BB.out hb) (.cells #[.slice au qs.length cu] 23))
    have F2 := hidH ((E2.out.below hb).alloc (.cells #[.slice au qs.length cu] 23))
    clear hb
    go_wp2_with (refine wpList_store_row rfl 62 _ _ rfl (w.heap.size + 1) #[.slice none 0 0] rfl rfl 62 _ F2.out SZ.out rfl nil_one ?_)
    refine bodyPost_ret (results_engB Try.results48 _ _ (w.heap.size + 1) _ (.bool false) rfl rfl (F2.out.setRow _)) rfl ?_
    exact ⟨_, rfl, RowS.nil _ _ _ _ _ (Nat.zero_le _) (fun _ => rfl), bRow HB1.out (by omega) _⟩
  · obtain rfl := HY1.out rfl
    obtain rfl := HY2.out rfl
    have ⟨p1, p7⟩ := HP.out rfl
    have HLA := hidH (listA_len (setC qs wi) qs.length)
    clear HN1 HN2 HY1 HY2 HP
    go_enter Try.func48, Try.ntmps48
    go_wp2_with fail
    refine (HV.out _ (HL.out.below BB.out)).mono ?_; rintro e w1 ⟨u, rfl, hr, hb⟩
    obtain ⟨b, cap, rfl, hlc, hcm, hlo, hhi, hB⟩ := hr.blk (by omega)
    unfold maxLen at hcm
    have HB1 := hidH (bMore (bThen BB.out hb) (.cells #[.slice (some ⟨b, 0, none⟩) qs.length cap] 23))
    have F2 := hidH ((E2.out.below hb).alloc (.cells #[.slice (some ⟨b, 0, none⟩) qs.length cap] 23))
    have hW1 : (w1.alloc (.cells #[.slice (some ⟨b, 0, none⟩) qs.length cap] 23)).cell? ⟨w.heap.size, 0, none⟩ = some (.int .i64 wi) := by
      rw [(bMore (Below.refl w1.heap.size w1) _).cell (p := ⟨w.heap.size, 0, none⟩) (by have := hb.size; rw [S2.out] at this; show w.heap.size < _; omega), hb.cell (p := ⟨w.heap.size, 0, none⟩) (by rw [S2.out]; show w.heap.size < _; omega)]
      exact W0.out
    have hW2 : (w1.alloc (.cells #[.slice (some ⟨b, 0, none⟩) qs.length cap] 23)).cell? ⟨w1.heap.size, 0, none⟩ = some (.slice (some ⟨b, 0, none⟩) qs.length cap) := by simp
    have hBK := hB.below (bMore (Below.refl w1.heap.size w1) (.cells #[.slice (some ⟨b, 0, none⟩) qs.length cap] 23))
    have hs2 : w.heap.size + 2 ≤ w1.heap.size := by have := hb.size; rw [S2.out] at this; exact this
    have HE := hidH (engineOf_setUp ⟨w1.heap.size, 0, none⟩ ⟨w.heap.size, 0, none⟩ (setC qs wi) qs.length (w1.alloc (.cells #[.slice (some ⟨b, 0, none⟩) qs.length cap] 23)) (by omega) (fun i W hi hbl =>
      setAt_any qs wi b 0 cap w1.heap.size w.heap.size i W hi hlc (by omega)
        (by rw [hbl.cell (p := ⟨w1.heap.size, 0, none⟩) (by simp)]; exact hW2)
        (by rw [hbl.cell (p := ⟨w.heap.size, 0, none⟩) (by simp; omega)]; exact hW1)
        (by
          rw [Nat.zero_add, hbl.cell (p := ⟨b, i, none⟩) hBK.1]
          exact (hBK.2 i _ (by rw [List.getD_eq_getElem?_getD, List.getElem?_eq_getElem hi]; rfl)).1)))
    have HL1 := hidH (show (w1.alloc (.cells #[.slice (some ⟨b, 0, none⟩) qs.length cap] 23)).heap.size = w1.heap.size + 1 by simp)
    clear hr hb hB hBK hW1
    generalize listA (setC qs wi) qs.length = rs at *
    generalize allA (setC qs wi) qs.length = rb at *
    go_wp2_with fail
    refine HE.out.mono ?_; rintro e w2 ⟨v2, rfl, hr, hb⟩
    have HB2 := hidH (bThen HB1.out hb)
    have K2 := hidH (F2.out.below hb)
    have HR := hidH hr
    obtain ⟨a2, cap2, rfl⟩ := hr.some
    clear hr hb
    have SZ := hidH (eng_size (.slice a2 rs.length cap2))
    have SO := hidH (slice_one a2 rs.length cap2)
    go_wp2_with (refine wpList_store_row rfl 62 _ _ rfl (w.heap.size + 1) #[.slice a2 rs.length cap2] rfl rfl 62 _ K2.out SZ.out rfl SO.out ?_)
    refine bodyPost_ret (results_engB Try.results48 _ _ (w.heap.size + 1) _ (.bool rb) rfl rfl (K2.out.setRow _)) rfl ?_
    exact ⟨_, rfl, (HR.out.apart (Apart.of_onto (lo := w.heap.size + 1) (hi := w.heap.size + 2) (onto_setRow (w.heap.size + 1) _ _) (by omega) (by omega)) (.inr (by rw [HL1.out]; omega))).mono (by rw [HL1.out]; omega) (by simp), bRow HB2.out (by omega) _⟩
end Go.Proofs.Ytcinhmfjnjecdaa
namespace Go.Proofs.Ytcinhmfjnjecdaa
set_option maxRecDepth 4000
set_option linter.unusedVariables false
open Go.RowKit
theorem owns_nilS (w : World) (base e : Nat) : w.ownsRow base e 1 (.slice none 0 0) 0 (intsS []) := ⟨rfl, .inl ⟨rfl, rfl⟩⟩
theorem listL_next (A : Nat → ByteArray × Bool) (n k : Nat) (h : k < n) : (listL A n).take (k + 1) = (listL A n).take k ++ [(A k).1] := by
  rw [List.take_add_one, listL_at A n k h]
  rfl
theorem colR_bad (n wi : Int) (h : decide (1 ≤ wi ∧ wi ≤ 12) = false) : (colR n wi).2 = false := by
  unfold colR
  rw [h]
  rfl
theorem set_bad (qs : List Int) (wi : Int) (h0 : 1 ≤ qs.length) (h : decide (1 ≤ wi ∧ wi ≤ 12) = false) : allA (setC qs wi) qs.length = false := allA_no _ _ 0 (by omega) (colR_bad _ wi h)
theorem sCol_set (qs : List Int) (wi : Int) (i : Nat) (z : Int) (hz : qs[i]? = some z) (w : World) : Calls Try.prog 82 #[.int .i64 z, .int .i64 wi] w (Gives (.tuple #[.string (setC qs wi i).1, .bool (setC qs wi i).2]) w) := by
  have h := sCol_any z wi w
  have e : setC qs wi i = colR z wi := by rw [setC, List.getD_eq_getElem?_getD, hz]; rfl
  rw [colR_is] at h
  rw [e]
  exact h
set_option maxHeartbeats 2000000 in
theorem sSetUp_any (v : Value) (zs : List Int) (n wi : Int) (w : World) (lo hi : Nat) (hv : Lies w lo hi v zs) : Calls Try.prog 64 #[v, .int .i64 n, .int .i64 wi] w (NewEngB (setL zs n wi) (setB zs n wi) w) := by
  have HV := hidH (fun W (h : Lies W lo hi v zs) => sShift_any v zs n W lo hi h)
  have HL := hidH hv
  have BB := hidH (belowN' w (.slice none 0 0))
  have E1 := hidH (EngAt.fresh w (.slice none 0 0))
  have S1 := hidH (show (w.alloc (.cells #[.slice none 0 0] 62)).heap.size = w.heap.size + 1 by simp)
  have HN1 := hidH (setL_no zs n wi)
  have HN2 := hidH (setB_no zs n wi)
  have HY1 := hidH (setL_yes zs n wi)
  have HY2 := hidH (setB_yes zs n wi)
  have HP := hidH (shift_pos zs n)
  have SZ0 := hidH (eng_size (.slice none 0 0))
  clear hv
  generalize setL zs n wi = rs at *
  generalize setB zs n wi = rb at *
  generalize shiftA zs n = qs at *
  generalize shiftB zs n = qb at *
  cases qb
  · obtain rfl := HN1.out rfl
    obtain rfl := HN2.out rfl
    go_enter Try.func64, Try.ntmps64
    go_wp2_with fail
    refine (HV.out _ (HL.out.below BB.out)).mono ?_; rintro e w1 ⟨u, rfl, hr, hb⟩
    have HB1 := hidH (bThen BB.out hb)
    have F1 := hidH (E1.out.below hb)
    clear hb hr
    go_wp2_with (refine wpList_store_row rfl 62 _ _ rfl w.heap.size #[.slice none 0 0] rfl rfl 62 _ F1.out SZ0.out rfl nil_one ?_)
    refine bodyPost_ret (results_engB Try.results64 _ _ w.heap.size _ (.bool false) rfl rfl (F1.out.setRow _)) rfl ?_
    exact ⟨_, rfl, RowS.nil _ _ _ _ _ (Nat.zero_le _) (fun _ => rfl), bRow HB1.out (Nat.le_refl _) _⟩
  · obtain rfl := HY1.out rfl
    obtain rfl := HY2.out rfl
    have ⟨p1, p7⟩ := HP.out rfl
    clear HN1 HN2 HY1 HY2 HP
    cases hwd : decide (1 ≤ wi ∧ wi ≤ 12)
    · have HW := hidH (sWidth_any wi false hwd)
      have HBD := hidH (set_bad qs wi p1 hwd)
      clear hwd
      go_enter Try.func64, Try.ntmps64
      go_wp2_with fail
      refine (HV.out _ (HL.out.below BB.out)).mono ?_; rintro e w1 ⟨u, rfl, hr, hb⟩
      have HB1 := hidH (bThen BB.out hb)
      have F1 := hidH (E1.out.below hb)
      clear hb hr
      go_wp2_with fail
      refine (HW.out _).mono ?_; rintro e w2 ⟨rfl, rfl⟩
      go_wp2_with (refine wpList_store_row rfl 62 _ _ rfl w.heap.size #[.slice none 0 0] rfl rfl 62 _ F1.out SZ0.out rfl nil_one ?_)
      refine bodyPost_ret (results_engB Try.results64 _ _ w.heap.size _ (.bool false) rfl rfl (F1.out.setRow _)) rfl ?_
      rw [listA, HBD.out]
      exact ⟨_, rfl, RowS.nil _ _ _ _ _ (Nat.zero_le _) (fun _ => rfl), bRow HB1.out (Nat.le_refl _) _⟩
    · have HW := hidH (sWidth_any wi true hwd)
      have HCO := hidH (fun i z (hz : qs[i]? = some z) W => sCol_set qs wi i z hz W)
      have HLL := hidH (listL_length (setC qs wi) qs.length)
      obtain ⟨i0, hi0, hz0, hz1, hz2⟩ := info_parts infoText
      clear hwd
      go_enter Try.func64, Try.ntmps64
      go_wp2_with fail
      refine (HV.out _ (HL.out.below BB.out)).mono ?_; rintro e w1 ⟨u, rfl, hr, hb⟩
      obtain ⟨b, cap, rfl, hlc, hcm, hlo, hhi, hB⟩ := hr.blk (by omega)
      have HBK := hidH hB
      have HB1 := hidH (bThen BB.out hb)
      have F1 := hidH (E1.out.below hb)
      have hs1 : w.heap.size + 1 ≤ w1.heap.size := by have := hb.size; rw [S1.out] at this; exact this
      have hbw := hB.1
      unfold maxLen at hcm
      clear hb hr hB
      have G1 := hidH (EngAt.fresh w1 (.slice none 0 0))
      have GB := hidH (belowN' w1 (.slice none 0 0))
      go_wp2_with fail
      refine (HW.out _).mono ?_; rintro e w2 ⟨rfl, rfl⟩
      go_wp2
      go_loopw [11] (fun i wr => ∃ (k : Nat) (ov : Value), k ≤ qs.length ∧ i = .int .i64 k ∧ (∀ j, j < k → (setC qs wi j).2 = true) ∧ EngAt wr w1.heap.size ov ∧ wr.ownsRow (w1.heap.size + 1) 9 1 ov k (intsS ((listL (setC qs wi) qs.length).take k)) ∧ Below w1.heap.size w1 wr) (fun i _ => qs.length - (intOf i).toNat)
      case atStart => exact ⟨0, _, Nat.zero_le _, rfl, fun j hj => absurd hj (Nat.not_lt_zero _), G1.out, by rw [List.take_zero]; exact owns_nilS _ _ _, GB.out⟩
      case round =>
        obtain ⟨k, ov, hk, rfl, hall, hE, hown, hb⟩ := hrel
        have HA := hidH hall
        have HE := hidH hE
        have HO := hidH hown
        have Hb := hidH hb
        have HBW := hidH (bThen HB1.out hb)
        clear hall hE hown hb
        by_cases hlt : k < qs.length
        · obtain ⟨z, hz⟩ := get_lt qs k hlt
          have hcw : wr.cell? ⟨b, k, none⟩ = some (.int .i64 z) := ((HBK.out.below Hb.out).2 k z hz).1
          have HC := hidH (HCO.out k z hz)
          clear hz
          have HNX := hidH (listL_next (setC qs wi) qs.length k hlt)
          cases hok : (setC qs wi k).2
          · rw [hok] at HC
            have HNO := hidH (allA_no (setC qs wi) qs.length k hlt hok)
            clear hok
            generalize (setC qs wi k).1 = x at *
            go_wp2_with fail
            refine (HC.out _).mono ?_; rintro e w2 ⟨rfl, hb2⟩
            have HB2 := hidH (bThen HBW.out hb2)
            have M1 := hidH ((F1.out.below Hb.out).below hb2)
            clear hb2
            go_wp2_with (refine wpList_store_row rfl 62 _ _ rfl w.heap.size #[.slice none 0 0] rfl rfl 62 _ M1.out SZ0.out rfl nil_one ?_)
            refine bodyPost_ret (results_engB Try.results64 _ _ w.heap.size _ (.bool false) rfl rfl (M1.out.setRow _)) rfl ?_
            rw [listA, HNO.out]
            exact ⟨_, rfl, RowS.nil _ _ _ _ _ (Nat.zero_le _) (fun _ => rfl), bRow HB2.out (Nat.le_refl _) _⟩
          · rw [hok] at HC
            have HYS : Hid (∀ j, j < k + 1 → (setC qs wi j).2 = true) := hidH (fun j hj => by
              by_cases e : j = k
              · rw [e]; exact hok
              · exact HA.out j (by omega))
            clear hok
            generalize (setC qs wi k).1 = x at *
            go_wp2_with fail
            refine (HC.out _).mono ?_; rintro e w2 ⟨rfl, hb2⟩
            have E2 := hidH (HE.out.below hb2)
            have O2 := hidH (owns_below HO.out hb2)
            have Hb2 := hidH (Hb.out.trans (hb2.mono (Hb.out.size)))
            have hs2 : w1.heap.size + 1 ≤ w2.heap.size := by have := HE.out.lt; have := hb2.size; omega
            have c2 := E2.out.cell
            have E2a := hidH (E2.out.alloc (.cells #[.string x] 9))
            have c2a := E2a.out.cell
            clear hb2 hcw
            go_wp2_with (at_builtin; refine wpList_append_lies _ rfl _ _ 60 rfl (w1.heap.size + 1) 9 i0 (.string ⟨#[]⟩) 1 16 Try.underlying60 hi0 hz0 hz1 hz2 rfl (by decide) ov k (intsS ((listL (setC qs wi) qs.length).take k)) rfl (O2.out.alloc _) ⟨w2.heap.size, 0, none⟩ 1 1 [.string x] rfl rfl (news_oneS w2 _ _) (one_oneS _) (by decide) (by unfold maxLen; omega) (by omega) (by simp; omega) (w2.heap.size + 1) (by simp) ?_)
            intro g5 cap5 w5 hown1 hgrow _ _
            have HBL := hidH (((Below.refl (w1.heap.size + 1) w2).alloc hs2 (.cells #[.string x] 9)).grown hgrow (by simp; omega) fun g hg => (O2.out.lt g hg).1)
            have E5 := hidH (E2.out.lowB HBL.out (Nat.lt_succ_self _))
            have HO5 := hidH hown1
            have c5 := E5.out.cell
            have f5 := E5.out.free 0
            clear hown1 hgrow c2 c2a
            go_wp2_with fail
            go_roundw
            case rel =>
              refine ⟨k + 1, _, by omega, by go_num, HYS.out, E5.out.put _, ?_, ?_⟩
              · rw [HNX.out, ints_appendS]
                exact owns_onto HO5.out (Onto.setCell w1.heap.size 0 w5 _) (Nat.lt_succ_self _)
              · exact (Hb2.out.trans (HBL.out.mono (Nat.le_succ _))).setCell (Nat.le_refl _) _
            case measure => simp [intOf] <;> omega
        · obtain rfl : k = qs.length := by omega
          have HY := hidH (allA_yes (setC qs wi) qs.length HA.out)
          have hfull : (listL (setC qs wi) qs.length).take qs.length = listL (setC qs wi) qs.length := List.take_of_length_le (by rw [HLL.out]; exact Nat.le_refl _)
          have HRW := hidH (row_of_ownsS (show wr.ownsRow (w1.heap.size + 1) 9 1 ov qs.length (intsS (listL (setC qs wi) qs.length)) by rw [← hfull]; exact HO.out)).1
          obtain ⟨ao, co, rfl⟩ := HRW.out.some
          rw [HLL.out] at *
          have M1 := hidH (F1.out.below Hb.out)
          have SZ := hidH (eng_size (.slice ao qs.length co))
          have SO := hidH (slice_one ao qs.length co)
          clear hfull
          go_wp2_with (first | (refine wpList_load_row rfl 62 _ rfl w1.heap.size rfl 62 _ (0, 0) _ HE.out Try.underlying62 rfl SZ.out ?_) | (refine wpList_store_row rfl 62 _ _ rfl w.heap.size #[.slice ao qs.length co] rfl rfl 62 _ M1.out SZ.out rfl SO.out ?_))
          refine bodyPost_ret (results_engB Try.results64 _ _ w.heap.size _ (.bool true) rfl rfl (M1.out.setRow _)) rfl ?_
          rw [listA, HY.out]
          exact ⟨_, rfl, (HRW.out.apart (Apart.of_onto (lo := w.heap.size) (hi := w.heap.size + 1) (onto_setRow w.heap.size _ _) (Nat.le_refl _) (Nat.lt_succ_self _)) (.inr (by omega))).mono (by omega) (by simp), bRow HBW.out (Nat.le_refl _) _⟩
end Go.Proofs.Ytcinhmfjnjecdaa
