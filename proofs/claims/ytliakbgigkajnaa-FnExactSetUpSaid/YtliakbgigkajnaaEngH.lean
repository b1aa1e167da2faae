/-
  SetUp: the program and the model. No conditions but that slices fit in memory.
-/
import Derived.Test.YtliakbgigkajnaaEngF
import Derived.Test.YtliakbgigkajnaaPolyFa
import Derived.Test.YtliakbgigkajnaaSpecA
import Derived.Deep.RegionHeld3
namespace Go.Proofs.Ytliakbgigkajnaa
set_option maxRecDepth 4000
set_option linter.unusedVariables false
open Go.RowKit
/-- The column for the difference of an index. -/
def setC (qs : List Int) (wi : Int) (i : Nat) : ByteArray × Bool := colR (qs.getD i 0) wi
/-- The columns that SetUp answers. -/
def setL (zs : List Int) (n wi : Int) : List ByteArray := if shiftB zs n then listA (setC (shiftA zs n) wi) (shiftA zs n).length else []
/-- Whether SetUp answers an engine. -/
def setB (zs : List Int) (n wi : Int) : Bool := shiftB zs n && allA (setC (shiftA zs n) wi) (shiftA zs n).length
theorem setL_no (zs : List Int) (n wi : Int) (h : shiftB zs n = false) : setL zs n wi = [] := by rw [setL, h]; rfl
theorem setB_no (zs : List Int) (n wi : Int) (h : shiftB zs n = false) : setB zs n wi = false := by rw [setB, h]; rfl
theorem setL_yes (zs : List Int) (n wi : Int) (h : shiftB zs n = true) : setL zs n wi = listA (setC (shiftA zs n) wi) (shiftA zs n).length := by rw [setL, h]; rfl
theorem setB_yes (zs : List Int) (n wi : Int) (h : shiftB zs n = true) : setB zs n wi = allA (setC (shiftA zs n) wi) (shiftA zs n).length := by rw [setB, h]; rfl
theorem shift_pos (zs : List Int) (n : Int) (h : shiftB zs n = true) : 1 ≤ (shiftA zs n).length ∧ (shiftA zs n).length ≤ 7 := by
  unfold shiftB at h
  rw [Bool.and_eq_true] at h
  unfold shiftA
  rw [h.1, if_pos rfl, resL, h.2, if_pos rfl]
  have := polyOk_small _ h.2
  exact ⟨this.1, this.2.1⟩
theorem setL_len (zs : List Int) (n wi : Int) : (setL zs n wi).length ≤ 1048576 := by
  unfold setL
  split
  · rename_i h
    have := listA_len (setC (shiftA zs n) wi) (shiftA zs n).length
    have := (shift_pos zs n h).2
    omega
  · simp
theorem setAt_any (qs : List Int) (wi : Int) (b off cap p1 p2 i : Nat) (w : World) (hi : i < qs.length) (hlc : qs.length ≤ cap) (hcm : cap ≤ 9223372036854775807)
    (hb1 : w.cell? ⟨p1, 0, none⟩ = some (.slice (some ⟨b, off, none⟩) qs.length cap)) (hb2 : w.cell? ⟨p2, 0, none⟩ = some (.int .i64 wi)) (hc : w.cell? ⟨b, off + i, none⟩ = some (.int .i64 (qs.getD i 0))) :
    Calls Try.prog 20 #[.int .i64 i, .pointer (some ⟨p1, 0, none⟩), .pointer (some ⟨p2, 0, none⟩)] w (Gives (.tuple #[.string (setC qs wi i).1, .bool (setC qs wi i).2]) w) := by
  have HC := hidH (fun W => col_any (qs.getD i 0) wi W)
  rw [colR_is] at HC
  have HX := hidH (show setC qs wi i = colR (qs.getD i 0) wi from rfl)
  generalize setC qs wi i = s at *
  rw [← HX.out] at HC
  clear HX
  generalize qs.getD i 0 = z at *
  obtain ⟨x, y⟩ := s
  have HB1 := hidH hb1
  have HB2 := hidH hb2
  have HCC := hidH hc
  go_enter Try.func20, Try.ntmps20
  go_wp2_with fail
  go_region_held3 (fun w' => w'.cell? ⟨p1, 0, none⟩ = some (.slice (some ⟨b, off, none⟩) qs.length cap) ∧ w'.cell? ⟨p2, 0, none⟩ = some (.int .i64 wi) ∧ w'.cell? ⟨b, off + i, none⟩ = some (.int .i64 z)) (first | exact ⟨hb1, hb2, hc⟩ | exact ⟨q1, q2, q3⟩)
    (first | (go_at_call 21; (with_reducible refine (HC.out _).mono ?_); rintro e w2 ⟨rfl, hbw⟩; (have HBD := hidH (bDrew' hbw)); (have q1 : w2.cell? ⟨p1, 0, none⟩ = some (.slice (some ⟨b, off, none⟩) qs.length cap) := by rw [HBD.out.cell (p := ⟨p1, 0, none⟩) (cell_blk _ _ _ hb1)]; exact hb1); (have q2 : w2.cell? ⟨p2, 0, none⟩ = some (.int .i64 wi) := by rw [HBD.out.cell (p := ⟨p2, 0, none⟩) (cell_blk _ _ _ hb2)]; exact hb2); (have q3 : w2.cell? ⟨b, off + i, none⟩ = some (.int .i64 z) := by rw [HBD.out.cell (p := ⟨b, off + i, none⟩) (cell_blk _ _ _ hc)]; exact hc); clear hbw))
  all_goals
    go_wp2
    go_ret2
    exact ⟨rfl, HBD.out⟩
theorem setUp_any (v : Value) (zs : List Int) (n wi : Int) (w : World) (lo hi : Nat) (hv : Lies w lo hi v zs) : Calls Try.prog 7 #[v, .int .i64 n, .int .i64 wi] w (NewEngB (setL zs n wi) (setB zs n wi) w) := by
  have HV := hidH (fun W (h : Lies W lo hi v zs) => shift_any v zs n W lo hi h)
  have HL := hidH hv
  have BB := hidH (bMore (bMore (Below.refl w.heap.size w) (.cells #[.int .i64 wi] 3)) (.cells #[.slice none 0 0] 25))
  have E2 := hidH (EngAt.newAt (w.alloc (.cells #[.int .i64 wi] 3)) (.slice none 0 0) (w.heap.size + 1) (by simp))
  have hW0 : ((w.alloc (.cells #[.int .i64 wi] 3)).alloc (.cells #[.slice none 0 0] 25)).cell? ⟨w.heap.size, 0, none⟩ = some (.int .i64 wi) := by
    rw [(bMore (Below.refl (w.alloc (.cells #[.int .i64 wi] 3)).heap.size _) (.cells #[.slice none 0 0] 25)).cell (p := ⟨w.heap.size, 0, none⟩) (by simp)]
    simp
  have W0 := hidH hW0
  have S2 := hidH (show ((w.alloc (.cells #[.int .i64 wi] 3)).alloc (.cells #[.slice none 0 0] 25)).heap.size = w.heap.size + 2 by simp)
  have HN1 := hidH (setL_no zs n wi)
  have HN2 := hidH (setB_no zs n wi)
  have HY1 := hidH (setL_yes zs n wi)
  have HY2 := hidH (setB_yes zs n wi)
  have HP := hidH (shift_pos zs n)
  clear hv hW0
  generalize setL zs n wi = rs at *
  generalize setB zs n wi = rb at *
  generalize shiftA zs n = qs at *
  generalize shiftB zs n = qb at *
  cases qb
  · obtain rfl := HN1.out rfl
    obtain rfl := HN2.out rfl
    have SZ := hidH (eng_size (.slice none 0 0))
    go_enter Try.func7, Try.ntmps7
    go_wp2_with fail
    refine (HV.out _ (HL.out.below BB.out)).mono ?_; rintro e w1 ⟨u, rfl, hr, hb⟩
    obtain ⟨au, cu, rfl, _⟩ := hr
    have HB1 := hidH (bMore (bThen BB.out hb) (.cells #[.slice au qs.length cu] 22))
    have F2 := hidH ((E2.out.below hb).alloc (.cells #[.slice au qs.length cu] 22))
    clear hb
    go_wp2_with (refine wpList_store_row rfl 25 _ _ rfl (w.heap.size + 1) #[.slice none 0 0] rfl rfl 25 _ F2.out SZ.out rfl nil_one ?_)
    refine bodyPost_ret (results_engB Try.results7 _ _ (w.heap.size + 1) _ (.bool false) rfl rfl (F2.out.setRow _)) rfl ?_
    exact ⟨_, rfl, RowS.nil _ _ _ _ _ (Nat.zero_le _) (fun _ => rfl), bRow HB1.out (by omega) _⟩
  · obtain rfl := HY1.out rfl
    obtain rfl := HY2.out rfl
    have ⟨p1, p7⟩ := HP.out rfl
    have HLA := hidH (listA_len (setC qs wi) qs.length)
    clear HN1 HN2 HY1 HY2 HP
    go_enter Try.func7, Try.ntmps7
    go_wp2_with fail
    refine (HV.out _ (HL.out.below BB.out)).mono ?_; rintro e w1 ⟨u, rfl, hr, hb⟩
    obtain ⟨b, cap, rfl, hlc, hcm, hlo, hhi, hB⟩ := hr.blk (by omega)
    unfold maxLen at hcm
    have HB1 := hidH (bMore (bThen BB.out hb) (.cells #[.slice (some ⟨b, 0, none⟩) qs.length cap] 22))
    have F2 := hidH ((E2.out.below hb).alloc (.cells #[.slice (some ⟨b, 0, none⟩) qs.length cap] 22))
    have hW1 : (w1.alloc (.cells #[.slice (some ⟨b, 0, none⟩) qs.length cap] 22)).cell? ⟨w.heap.size, 0, none⟩ = some (.int .i64 wi) := by
      rw [(bMore (Below.refl w1.heap.size w1) _).cell (p := ⟨w.heap.size, 0, none⟩) (by have := hb.size; rw [S2.out] at this; show w.heap.size < _; omega), hb.cell (p := ⟨w.heap.size, 0, none⟩) (by rw [S2.out]; show w.heap.size < _; omega)]
      exact W0.out
    have hW2 : (w1.alloc (.cells #[.slice (some ⟨b, 0, none⟩) qs.length cap] 22)).cell? ⟨w1.heap.size, 0, none⟩ = some (.slice (some ⟨b, 0, none⟩) qs.length cap) := by simp
    have hBK := hB.below (bMore (Below.refl w1.heap.size w1) (.cells #[.slice (some ⟨b, 0, none⟩) qs.length cap] 22))
    have hs2 : w.heap.size + 2 ≤ w1.heap.size := by have := hb.size; rw [S2.out] at this; exact this
    have HE := hidH (engineOf_setUp ⟨w1.heap.size, 0, none⟩ ⟨w.heap.size, 0, none⟩ (setC qs wi) qs.length (w1.alloc (.cells #[.slice (some ⟨b, 0, none⟩) qs.length cap] 22)) (by omega) (fun i W hi hbl =>
      setAt_any qs wi b 0 cap w1.heap.size w.heap.size i W hi hlc (by omega)
        (by rw [hbl.cell (p := ⟨w1.heap.size, 0, none⟩) (by simp)]; exact hW2)
        (by rw [hbl.cell (p := ⟨w.heap.size, 0, none⟩) (by simp; omega)]; exact hW1)
        (by
          rw [Nat.zero_add, hbl.cell (p := ⟨b, i, none⟩) hBK.1]
          exact (hBK.2 i _ (by rw [List.getD_eq_getElem?_getD, List.getElem?_eq_getElem hi]; rfl)).1)))
    have HL1 := hidH (show (w1.alloc (.cells #[.slice (some ⟨b, 0, none⟩) qs.length cap] 22)).heap.size = w1.heap.size + 1 by simp)
    clear hr hb hB hBK hW1
    generalize listA (setC qs wi) qs.length = rs at *
    generalize allA (setC qs wi) qs.length = rb at *
    go_wp2_with fail
    refine HE.out.mono ?_; rintro e w2 ⟨v2, rfl, hr, hb⟩
    have HB2 := hidH (bThen HB1.out hb)
    have K2 := hidH (F2.out.below hb)
    have HR := hidH hr
    obtain ⟨a2, cap2, rfl⟩ := hr.some
    clear hr hb
    have SZ := hidH (eng_size (.slice a2 rs.length cap2))
    have SO := hidH (slice_one a2 rs.length cap2)
    go_wp2_with (refine wpList_store_row rfl 25 _ _ rfl (w.heap.size + 1) #[.slice a2 rs.length cap2] rfl rfl 25 _ K2.out SZ.out rfl SO.out ?_)
    refine bodyPost_ret (results_engB Try.results7 _ _ (w.heap.size + 1) _ (.bool rb) rfl rfl (K2.out.setRow _)) rfl ?_
    exact ⟨_, rfl, (HR.out.apart (Apart.of_onto (lo := w.heap.size + 1) (hi := w.heap.size + 2) (onto_setRow (w.heap.size + 1) _ _) (by omega) (by omega)) (.inr (by rw [HL1.out]; omega))).mono (by rw [HL1.out]; omega) (by simp), bRow HB2.out (by omega) _⟩
end Go.Proofs.Ytliakbgigkajnaa
