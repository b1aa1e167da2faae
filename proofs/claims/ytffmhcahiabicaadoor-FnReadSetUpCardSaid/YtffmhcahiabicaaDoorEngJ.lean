/-
  WidenEngine: the program and the model, at every list of texts. Condition: texts that fit in memory.
  WidenEngine of the model, at every list of texts. Condition: texts that fit in memory.
-/
import Derived.Test.YtffmhcahiabicaaDoorEngC
import Derived.Test.YtffmhcahiabicaaDoorEngF
import Derived.Deep.RegionHeld3
import Derived.Test.YtffmhcahiabicaaDoorEngE
namespace Go.Proofs.YtffmhcahiabicaaDoor
set_option maxRecDepth 4000
set_option linter.unusedVariables false
open Go.RowKit
/-- The column of another width. -/
def widC (cs : List ByteArray) (wi : Int) (i : Nat) : ByteArray × Bool := colR (sgnS (cs.getD i ⟨#[]⟩)) wi
/-- The columns that WidenEngine answers. -/
def widL (cs : List ByteArray) (wi : Int) : List ByteArray := if engOk cs then listA (widC cs wi) cs.length else []
/-- Whether there are all of them. -/
def widB (cs : List ByteArray) (wi : Int) : Bool := engOk cs && allA (widC cs wi) cs.length
theorem widL_no (cs : List ByteArray) (wi : Int) (h : engOk cs = false) : widL cs wi = [] := by rw [widL, h]; rfl
theorem widB_no (cs : List ByteArray) (wi : Int) (h : engOk cs = false) : widB cs wi = false := by rw [widB, h]; rfl
theorem widL_yes (cs : List ByteArray) (wi : Int) (h : engOk cs = true) : widL cs wi = listA (widC cs wi) cs.length := by rw [widL, h]; rfl
theorem widB_yes (cs : List ByteArray) (wi : Int) (h : engOk cs = true) : widB cs wi = allA (widC cs wi) cs.length := by rw [widB, h]; rfl
theorem widL_len (cs : List ByteArray) (wi : Int) : (widL cs wi).length ≤ 1048576 := by
  unfold widL
  split
  · rename_i h
    have := listA_len (widC cs wi) cs.length
    have := (engOk_parts cs h).2.1
    omega
  · simp
theorem widC_is (cs : List ByteArray) (wi : Int) (i : Nat) (c : ByteArray) (h : cs[i]? = some c) : widC cs wi i = colR (sgnS c) wi := by
  rw [widC, List.getD_eq_getElem?_getD, h]; rfl
theorem widen_set (cs : List ByteArray) (wi : Int) (i : Nat) (c : ByteArray) (h : cs[i]? = some c) (hk : ok c = true) (w : World) : Calls Tryd.prog 77 #[.string c, .int .i64 wi] w (Gives (.tuple #[.string (widC cs wi i).1, .bool (widC cs wi i).2]) w) := by
  have hx := widen_yes c (ok_size c hk) w wi hk
  rw [colR_is] at hx
  rw [widC_is cs wi i c h]
  exact hx
theorem sWiden_set (cs : List ByteArray) (wi : Int) (i : Nat) (c : ByteArray) (h : cs[i]? = some c) (hk : ok c = true) (w : World) : Calls Tryd.prog 79 #[.string c, .int .i64 wi] w (Gives (.tuple #[.string (widC cs wi i).1, .bool (widC cs wi i).2]) w) := by
  have hx := sWiden_yes c (ok_size c hk) w wi hk
  rw [colR_is] at hx
  rw [widC_is cs wi i c h]
  exact hx
theorem widAt_any (cs : List ByteArray) (wi : Int) (b off cap p1 p2 i : Nat) (c : ByteArray) (w : World) (hi : cs[i]? = some c) (hk : ok c = true) (hlc : cs.length ≤ cap) (hcm : cap ≤ 9223372036854775807)
    (hb1 : w.cell? ⟨p1, 0, none⟩ = some (.slice (some ⟨b, off, none⟩) cs.length cap)) (hb2 : w.cell? ⟨p2, 0, none⟩ = some (.int .i64 wi)) (hc : w.cell? ⟨b, off + i, none⟩ = some (.string c)) :
    Calls Tryd.prog 76 #[.int .i64 i, .pointer (some ⟨p1, 0, none⟩), .pointer (some ⟨p2, 0, none⟩)] w (Gives (.tuple #[.string (widC cs wi i).1, .bool (widC cs wi i).2]) w) := by
  have HC := hidH (fun W => widen_set cs wi i c hi hk W)
  have hil := (List.getElem?_eq_some_iff.1 hi).1
  generalize widC cs wi i = s at *
  obtain ⟨x, y⟩ := s
  clear hi hk
  go_enter Tryd.func76, Tryd.ntmps76
  go_wp2_with fail
  go_region_held3 (fun w' => w'.cell? ⟨p1, 0, none⟩ = some (.slice (some ⟨b, off, none⟩) cs.length cap) ∧ w'.cell? ⟨p2, 0, none⟩ = some (.int .i64 wi) ∧ w'.cell? ⟨b, off + i, none⟩ = some (.string c)) (first | exact ⟨hb1, hb2, hc⟩ | exact ⟨q1, q2, q3⟩)
    (first | (go_at_call 77; (with_reducible refine (HC.out _).mono ?_); rintro e w2 ⟨rfl, hbw⟩; (have HBD := hidH (bDrew' hbw)); (have q1 : w2.cell? ⟨p1, 0, none⟩ = some (.slice (some ⟨b, off, none⟩) cs.length cap) := by rw [HBD.out.cell (p := ⟨p1, 0, none⟩) (cell_blk _ _ _ hb1)]; exact hb1); (have q2 : w2.cell? ⟨p2, 0, none⟩ = some (.int .i64 wi) := by rw [HBD.out.cell (p := ⟨p2, 0, none⟩) (cell_blk _ _ _ hb2)]; exact hb2); (have q3 : w2.cell? ⟨b, off + i, none⟩ = some (.string c) := by rw [HBD.out.cell (p := ⟨b, off + i, none⟩) (cell_blk _ _ _ hc)]; exact hc); clear hbw))
  all_goals
    go_wp2
    go_ret2
    exact ⟨rfl, HBD.out⟩
theorem widenEngine_any (v : Value) (cs : List ByteArray) (wi : Int) (w : World) (lo hi : Nat) (hv : LiesS w lo hi v cs) (hm : ∀ c ∈ cs, c.size ≤ 9223372036854775807) : Calls Tryd.prog 36 #[.agg #[v], .int .i64 wi] w (NewEngB (widL cs wi) (widB cs wi) w) := by
  have HL := hidH hv
  have hBB := bMore (bMore (belowN' w v) (.cells #[.int .i64 wi] 3)) (.cells #[.slice none 0 0] 26)
  have BB := hidH hBB
  have E1 := hidH (((EngAt.fresh w v).alloc (.cells #[.int .i64 wi] 3)).alloc (.cells #[.slice none 0 0] 26))
  have E3 := hidH (EngAt.newAt ((w.alloc (.cells #[v] 26)).alloc (.cells #[.int .i64 wi] 3)) (.slice none 0 0) (w.heap.size + 1 + 1) (by simp))
  have S3 := hidH (show (((w.alloc (.cells #[v] 26)).alloc (.cells #[.int .i64 wi] 3)).alloc (.cells #[.slice none 0 0] 26)).heap.size = w.heap.size + 3 by simp)
  have hW2 : (((w.alloc (.cells #[v] 26)).alloc (.cells #[.int .i64 wi] 3)).alloc (.cells #[.slice none 0 0] 26)).cell? ⟨w.heap.size + 1, 0, none⟩ = some (.int .i64 wi) := by
    rw [(bMore (Below.refl ((w.alloc (.cells #[v] 26)).alloc (.cells #[.int .i64 wi] 3)).heap.size _) (.cells #[.slice none 0 0] 26)).cell (p := ⟨w.heap.size + 1, 0, none⟩) (by simp)]
    have e : (⟨w.heap.size + 1, 0, none⟩ : Addr) = ⟨(w.alloc (.cells #[v] 26)).heap.size, 0, none⟩ := by simp
    rw [e]
    simp
  have W2 := hidH hW2
  have cA := E1.out.cell
  have HN1 := hidH (widL_no cs wi)
  have HN2 := hidH (widB_no cs wi)
  have HY1 := hidH (widL_yes cs wi)
  have HY2 := hidH (widB_yes cs wi)
  generalize widL cs wi = rs at *
  generalize widB cs wi = rb at *
  cases hk : engOk cs
  · obtain rfl := HN1.out hk
    obtain rfl := HN2.out hk
    have HV := hidH (fun W (h : LiesS W lo hi v cs) => engValid_is false v cs hk W lo hi h hm)
    have SZ := hidH (eng_size (.slice none 0 0))
    obtain ⟨a, cap, rfl⟩ := hv.some
    clear hv hm hk hBB hW2
    go_enter Tryd.func36, Tryd.ntmps36
    go_wp2_with fail
    refine (HV.out _ (HL.out.below BB.out)).mono ?_; rintro e w1 ⟨rfl, hb⟩
    have HB1 := hidH (bThen BB.out hb)
    have F3 := hidH (E3.out.below hb)
    clear hb cA
    go_wp2_with (refine wpList_store_row rfl 26 _ _ rfl (w.heap.size + 1 + 1) #[.slice none 0 0] rfl rfl 26 _ F3.out SZ.out rfl nil_one ?_)
    refine bodyPost_ret (results_engB Tryd.results36 _ _ (w.heap.size + 1 + 1) _ (.bool false) rfl rfl (F3.out.setRow _)) rfl ?_
    exact ⟨_, rfl, RowS.nil _ _ _ _ _ (Nat.zero_le _) (fun _ => rfl), bRow HB1.out (by omega) _⟩
  · obtain rfl := HY1.out hk
    obtain rfl := HY2.out hk
    have HV := hidH (fun W (h : LiesS W lo hi v cs) => engValid_is true v cs hk W lo hi h hm)
    have ⟨h1, h7, n0, _, _, hall⟩ := engOk_parts cs hk
    obtain ⟨b, off, cap, rfl, hlc, hcm, hlo, hhi, hbw, hcell⟩ := hv.addr (by omega)
    have HC := hidH hcell
    have HAL := hidH hall
    have HLA := hidH (listA_len (widC cs wi) cs.length)
    unfold maxLen at hcm
    clear hv hm hk hBB hW2 hcell hall
    go_enter Tryd.func36, Tryd.ntmps36
    go_wp2_with fail
    refine (HV.out _ (HL.out.below BB.out)).mono ?_; rintro e w1 ⟨rfl, hb⟩
    have HB1 := hidH (bThen BB.out hb)
    have F1 := hidH (E1.out.below hb)
    have F3 := hidH (E3.out.below hb)
    have hs1 := hb.size
    rw [S3.out] at hs1
    have hw1 : w1.cell? ⟨w.heap.size + 1, 0, none⟩ = some (.int .i64 wi) := by
      rw [hb.cell (p := ⟨w.heap.size + 1, 0, none⟩) (by rw [S3.out]; show w.heap.size + 1 < _; omega)]; exact W2.out
    have HE := hidH (engineOf_widen ⟨w.heap.size, 0, none⟩ ⟨w.heap.size + 1, 0, none⟩ (widC cs wi) cs.length w1 (by omega) (fun i W hi hbl => by
      obtain ⟨c, hc⟩ := get_lt cs i hi
      exact widAt_any cs wi b off cap w.heap.size (w.heap.size + 1) i c W hc (HAL.out c (List.mem_of_getElem? hc)).1 hlc (by omega)
        (by rw [hbl.cell (p := ⟨w.heap.size, 0, none⟩) (by show w.heap.size < _; omega)]; exact F1.out.cell)
        (by rw [hbl.cell (p := ⟨w.heap.size + 1, 0, none⟩) (by show w.heap.size + 1 < _; omega)]; exact hw1)
        (by rw [hbl.cell (p := ⟨b, off + i, none⟩) (by show b < _; omega), HB1.out.cell (p := ⟨b, off + i, none⟩) hbw]; exact HC.out i c hc)))
    clear hb cA hw1
    have cA := F1.out.cell
    generalize listA (widC cs wi) cs.length = rs at *
    generalize allA (widC cs wi) cs.length = rb at *
    go_wp2_with fail
    refine HE.out.mono ?_; rintro e w2 ⟨v2, rfl, hr, hb⟩
    have HB2 := hidH (bThen HB1.out hb)
    have K3 := hidH (F3.out.below hb)
    have HR := hidH hr
    obtain ⟨a2, cap2, rfl⟩ := hr.some
    clear hr hb cA
    have SZ := hidH (eng_size (.slice a2 rs.length cap2))
    have SO := hidH (slice_one a2 rs.length cap2)
    go_wp2_with (refine wpList_store_row rfl 26 _ _ rfl (w.heap.size + 1 + 1) #[.slice a2 rs.length cap2] rfl rfl 26 _ K3.out SZ.out rfl SO.out ?_)
    refine bodyPost_ret (results_engB Tryd.results36 _ _ (w.heap.size + 1 + 1) _ (.bool rb) rfl rfl (K3.out.setRow _)) rfl ?_
    exact ⟨_, rfl, (HR.out.apart (Apart.of_onto (lo := w.heap.size + 2) (hi := w.heap.size + 3) (onto_setRow (w.heap.size + 1 + 1) _ _) (by omega) (by omega)) (.inr hs1)).mono (by omega) (by simp), bRow HB2.out (by omega) _⟩
end Go.Proofs.YtffmhcahiabicaaDoor
namespace Go.Proofs.YtffmhcahiabicaaDoor
set_option maxRecDepth 4000
set_option linter.unusedVariables false
open Go.RowKit
set_option maxHeartbeats 2000000 in
theorem sWidenEngine_any (v : Value) (cs : List ByteArray) (wi : Int) (w : World) (lo hi : Nat) (hv : LiesS w lo hi v cs) (hm : ∀ c ∈ cs, c.size ≤ 9223372036854775807) : Calls Tryd.prog 37 #[.agg #[v], .int .i64 wi] w (NewEngB (widL cs wi) (widB cs wi) w) := by
  have HL := hidH hv
  have ⟨t1, t2, t3, t4⟩ := two_boxes w v
  have BB := hidH t1
  have E1 := hidH t2
  have E2 := hidH t3
  have S2 := hidH t4
  have cA := t2.cell
  have SZ0 := hidH (eng_size (.slice none 0 0))
  have HN1 := hidH (widL_no cs wi)
  have HN2 := hidH (widB_no cs wi)
  have HY1 := hidH (widL_yes cs wi)
  have HY2 := hidH (widB_yes cs wi)
  generalize widL cs wi = rs at *
  generalize widB cs wi = rb at *
  cases hk : engOk cs
  · obtain rfl := HN1.out hk
    obtain rfl := HN2.out hk
    have HV := hidH (fun W (h : LiesS W lo hi v cs) => sEngValid_is false v cs hk W lo hi h hm)
    obtain ⟨a, cap, rfl⟩ := hv.some
    clear hv hm hk t1 t2 t3 t4
    go_enter Tryd.func37, Tryd.ntmps37
    go_wp2_with fail
    refine (HV.out _ (HL.out.below BB.out)).mono ?_; rintro e w1 ⟨rfl, hb⟩
    have HB1 := hidH (bThen BB.out hb)
    have F2 := hidH (E2.out.below hb)
    clear hb cA
    go_wp2_with (refine wpList_store_row rfl 26 _ _ rfl (w.heap.size + 1) #[.slice none 0 0] rfl rfl 26 _ F2.out SZ0.out rfl nil_one ?_)
    refine bodyPost_ret (results_engB Tryd.results37 _ _ (w.heap.size + 1) _ (.bool false) rfl rfl (F2.out.setRow _)) rfl ?_
    exact ⟨_, rfl, RowS.nil _ _ _ _ _ (Nat.zero_le _) (fun _ => rfl), bRow HB1.out (by omega) _⟩
  · obtain rfl := HY1.out hk
    obtain rfl := HY2.out hk
    have HV := hidH (fun W (h : LiesS W lo hi v cs) => sEngValid_is true v cs hk W lo hi h hm)
    have ⟨h1, h7, n0, _, _, hall⟩ := engOk_parts cs hk
    have HCP := hidH (fun W (h : LiesS W lo hi v cs) => l3Copy_any v cs W lo hi h (by omega) (by omega))
    have HWD := hidH (fun i c (h : cs[i]? = some c) W => sWiden_set cs wi i c h (hall c (List.mem_of_getElem? h)).1 W)
    have HLL := hidH (listL_length (widC cs wi) cs.length)
    obtain ⟨a, cap, rfl⟩ := hv.some
    clear hv hm hk t1 t2 t3 t4 hall HN1 HN2 HY1 HY2
    go_enter Tryd.func37, Tryd.ntmps37
    go_wp2_with fail
    refine (HV.out _ (HL.out.below BB.out)).mono ?_; rintro e w1 ⟨rfl, hb⟩
    have HB1 := hidH (bThen BB.out hb)
    have F1 := hidH (E1.out.below hb)
    have F2 := hidH (E2.out.below hb)
    have hs1 := hb.size
    rw [S2.out] at hs1
    clear hb cA
    have cA := F1.out.cell
    go_wp2_with fail
    refine (HCP.out _ (HL.out.below HB1.out)).mono ?_; rintro e w2 ⟨u, rfl, hr, hb⟩
    obtain ⟨b2, cap2, rfl, hlc2, hcm2, hlo2, hhi2, hB2⟩ := hr.blk (by omega)
    have hs2 := hb.size
    have G2 := hidH ((F2.out.below hb).alloc (.cells #[.slice (some ⟨b2, 0, none⟩) cs.length cap2] 26))
    have G3 := hidH (EngAt.fresh w2 (.slice (some ⟨b2, 0, none⟩) cs.length cap2))
    have HK0 := hidH (hB2.below (belowN' w2 (.slice (some ⟨b2, 0, none⟩) cs.length cap2)))
    have HB2' := hidH (bMore (bThen HB1.out hb) (.cells #[.slice (some ⟨b2, 0, none⟩) cs.length cap2] 26))
    have hcO := G3.out.cell
    have HS3 := hidH (show (w2.alloc (.cells #[.slice (some ⟨b2, 0, none⟩) cs.length cap2] 26)).heap.size = w2.heap.size + 1 by simp)
    clear hr hb hB2 cA
    unfold maxLen at hcm2
    go_wp2
    go_loopw [7] (fun i wr => ∃ k : Nat, k ≤ cs.length ∧ i = .int .i64 k ∧ (∀ j, j < k → (widC cs wi j).2 = true) ∧ BlkS wr b2 (overS (listL (widC cs wi) cs.length) cs k) ∧ Onto b2 (w2.alloc (.cells #[.slice (some ⟨b2, 0, none⟩) cs.length cap2] 26)) wr) (fun i _ => cs.length - (intOf i).toNat)
    case atStart => exact ⟨0, Nat.zero_le _, rfl, fun j hj => absurd hj (Nat.not_lt_zero _), by rw [over_zeroS]; exact HK0.out, Onto.refl _ _⟩
    case round =>
      obtain ⟨k, hk, rfl, hall, hB, ho⟩ := hrel
      have HA := hidH hall
      have HB := hidH hB
      have HO := hidH ho
      have cO := (G3.out.onto ho (by omega)).cell
      have HBW := hidH (HB2'.out.trans (ho.below (B := w.heap.size) (by omega) (by rw [HS3.out]; omega)))
      clear hall hB ho hcO
      by_cases hlt : k < cs.length
      · obtain ⟨c, hc⟩ := get_lt cs k hlt
        have hg := over_getS (listL (widC cs wi) cs.length) cs k HLL.out hlt
        have ⟨hcw, hfw⟩ := HB.out.2 k c (by rw [hg]; exact hc)
        have HC := hidH (HWD.out k c hc)
        have HNX := hidH (over_setS (listL (widC cs wi) cs.length) cs k (widC cs wi k).1 HLL.out (listL_at _ _ k hlt))
        have HGT := hidH (show (overS (listL (widC cs wi) cs.length) cs k)[k]? = some c by rw [hg]; exact hc)
        clear hc hg
        cases hok : (widC cs wi k).2
        · rw [hok] at HC
          have HNO := hidH (allA_no (widC cs wi) cs.length k hlt hok)
          clear hok
          generalize (widC cs wi k).1 = x at *
          go_wp2_with fail
          refine (HC.out _).mono ?_; rintro e w3 ⟨rfl, hb3⟩
          have HB3 := hidH (bThen HBW.out hb3)
          have M2 := hidH ((G2.out.onto HO.out (by omega)).below hb3)
          clear hb3
          go_wp2_with (refine wpList_store_row rfl 26 _ _ rfl (w.heap.size + 1) #[.slice none 0 0] rfl rfl 26 _ M2.out SZ0.out rfl nil_one ?_)
          refine bodyPost_ret (results_engB Tryd.results37 _ _ (w.heap.size + 1) _ (.bool false) rfl rfl (M2.out.setRow _)) rfl ?_
          rw [listA, HNO.out]
          exact ⟨_, rfl, RowS.nil _ _ _ _ _ (Nat.zero_le _) (fun _ => rfl), bRow HB3.out (by omega) _⟩
        · rw [hok] at HC
          have HYS : Hid (∀ j, j < k + 1 → (widC cs wi j).2 = true) := hidH (fun j hj => by
            by_cases e : j = k
            · rw [e]; exact hok
            · exact HA.out j (by omega))
          clear hok
          generalize (widC cs wi k).1 = x at *
          go_wp2_with fail
          refine (HC.out _).mono ?_; rintro e w3 ⟨rfl, hb3⟩
          have HB3 := hidH (HB.out.below hb3)
          have HO3 := hidH (HO.out.trans (Onto.of_below hb3))
          have cO3 := (G3.out.onto HO3.out (by omega)).cell
          obtain ⟨ho3, hf3⟩ := HB3.out.2 k c HGT.out
          clear hb3 cO
          go_wp2
          go_roundw
          case rel => exact ⟨k + 1, by omega, by go_num, HYS.out, by rw [← HNX.out]; exact HB3.out.set k x, HO3.out.trans (Onto.setCell b2 k _ _)⟩
          case measure => simp [intOf] <;> omega
      · obtain rfl : k = cs.length := by omega
        have HY := hidH (allA_yes (widC cs wi) cs.length HA.out)
        have HFIN : Hid (BlkS wr b2 (listL (widC cs wi) cs.length)) := hidH (by have h := HB.out; rw [over_allS _ _ HLL.out] at h; exact h)
        have K2 := hidH (G2.out.onto HO.out (by omega))
        have K3 := hidH (G3.out.onto HO.out (by omega))
        have SZ := hidH (eng_size (.slice (some ⟨b2, 0, none⟩) cs.length cap2))
        have SO := hidH (slice_one (some ⟨b2, 0, none⟩) cs.length cap2)
        go_wp2_with (first | (refine wpList_load_row rfl 26 _ rfl w2.heap.size rfl 26 _ (0, 0) _ K3.out Tryd.underlying26 rfl SZ.out ?_) | (refine wpList_store_row rfl 26 _ _ rfl (w.heap.size + 1) #[.slice (some ⟨b2, 0, none⟩) cs.length cap2] rfl rfl 26 _ K2.out SZ.out rfl SO.out ?_))
        refine bodyPost_ret (results_engB Tryd.results37 _ _ (w.heap.size + 1) _ (.bool true) rfl rfl (K2.out.setRow _)) rfl ?_
        rw [listA, HY.out]
        have HAP := HFIN.out.apart (Apart.of_onto (lo := w.heap.size + 1) (hi := w.heap.size + 2) (onto_setRow (w.heap.size + 1) wr #[.slice (some ⟨b2, 0, none⟩) cs.length cap2]) (by omega) (by omega)) (.inr (by omega))
        exact ⟨_, rfl, HAP.row (by omega) HAP.1 (by rw [HLL.out]; exact hlc2) (by unfold maxLen; omega) HLL.out.symm, bRow HBW.out (by omega) _⟩
end Go.Proofs.YtffmhcahiabicaaDoor
