/-
  AddEngines of the program, at all lists of texts. Condition: texts that fit in memory.
-/
import Derived.Test.YtliakbgigkajnaaDoorEngC
import Derived.Test.YtliakbgigkajnaaDoorEngF
import Derived.Deep.RegionHeld3
namespace Go.Proofs.YtliakbgigkajnaaDoor
set_option maxRecDepth 4000
set_option linter.unusedVariables false
open Go.RowKit
/-- The sum of two columns, and whether there is one. -/
def addR (a b : ByteArray) : ByteArray × Bool := if pair a b then (sumS a b, true) else (⟨#[]⟩, false)
theorem addR_any (a b : ByteArray) (ha : ok a = true) (hb : ok b = true) (w : World) : Calls Tryd.prog 50 #[.string a, .string b] w (Gives (.tuple #[.string (addR a b).1, .bool (addR a b).2]) w) := by
  cases h : pair a b
  · have hx := addS_no a b w (ok_size a ha) (ok_size b hb) h
    rw [addR, h]; exact hx
  · have ⟨_, _, h3⟩ := (pair_iff a b).1 h
    have hx := addS_yes a b w ha hb h3
    rw [addR, h]; exact hx
/-- The sum of the columns with an index. -/
def addC (xs ys : List ByteArray) (i : Nat) : ByteArray × Bool := addR (xs.getD i ⟨#[]⟩) (ys.getD i ⟨#[]⟩)
/-- Whether two engines are valid and have xs many columns. -/
def addOk (xs ys : List ByteArray) : Bool := engOk xs && engOk ys && decide (xs.length = ys.length)
/-- The columns that AddEngines answers. -/
def addL (xs ys : List ByteArray) : List ByteArray := if addOk xs ys then listA (addC xs ys) xs.length else []
/-- Whether there are all of them. -/
def addB (xs ys : List ByteArray) : Bool := addOk xs ys && allA (addC xs ys) xs.length
theorem addL_no (xs ys : List ByteArray) (h : addOk xs ys = false) : addL xs ys = [] := by rw [addL, h]; rfl
theorem addB_no (xs ys : List ByteArray) (h : addOk xs ys = false) : addB xs ys = false := by rw [addB, h]; rfl
theorem addL_yes (xs ys : List ByteArray) (h : addOk xs ys = true) : addL xs ys = listA (addC xs ys) xs.length := by rw [addL, h]; rfl
theorem addB_yes (xs ys : List ByteArray) (h : addOk xs ys = true) : addB xs ys = allA (addC xs ys) xs.length := by rw [addB, h]; rfl
theorem addL_len (xs ys : List ByteArray) : (addL xs ys).length ≤ 1048576 := by
  unfold addL
  split
  · rename_i h
    unfold addOk at h
    rw [Bool.and_eq_true, Bool.and_eq_true] at h
    have := listA_len (addC xs ys) xs.length
    have := (engOk_parts xs h.1.1).2.1
    omega
  · simp
theorem addC_is (xs ys : List ByteArray) (i : Nat) (a b : ByteArray) (ha : xs[i]? = some a) (hb : ys[i]? = some b) : addC xs ys i = addR a b := by
  rw [addC, List.getD_eq_getElem?_getD, List.getD_eq_getElem?_getD, ha, hb]; rfl
theorem addAt_any (xs ys : List ByteArray) (b1 o1 c1 b2 o2 c2 p1 p2 i : Nat) (a b : ByteArray) (w : World) (hia : xs[i]? = some a) (hib : ys[i]? = some b) (hka : ok a = true) (hkb : ok b = true) (hlc1 : xs.length ≤ c1) (hcm1 : c1 ≤ 9223372036854775807) (hlc2 : ys.length ≤ c2) (hcm2 : c2 ≤ 9223372036854775807)
    (hb1 : w.cell? ⟨p1, 0, none⟩ = some (.slice (some ⟨b1, o1, none⟩) xs.length c1)) (hb2 : w.cell? ⟨p2, 0, none⟩ = some (.slice (some ⟨b2, o2, none⟩) ys.length c2)) (hc1 : w.cell? ⟨b1, o1 + i, none⟩ = some (.string a)) (hc2 : w.cell? ⟨b2, o2 + i, none⟩ = some (.string b)) :
    Calls Tryd.prog 49 #[.int .i64 i, .pointer (some ⟨p1, 0, none⟩), .pointer (some ⟨p2, 0, none⟩)] w (Gives (.tuple #[.string (addC xs ys i).1, .bool (addC xs ys i).2]) w) := by
  have HC := hidH (fun W => addR_any a b hka hkb W)
  rw [addC_is xs ys i a b hia hib]
  have hil := (List.getElem?_eq_some_iff.1 hia).1
  have hil2 := (List.getElem?_eq_some_iff.1 hib).1
  generalize addR a b = s at *
  obtain ⟨x, y⟩ := s
  clear hia hib hka hkb
  go_enter Tryd.func49, Tryd.ntmps49
  go_wp2_with fail
  go_region_held3 (fun w' => w'.cell? ⟨p1, 0, none⟩ = some (.slice (some ⟨b1, o1, none⟩) xs.length c1) ∧ w'.cell? ⟨p2, 0, none⟩ = some (.slice (some ⟨b2, o2, none⟩) ys.length c2) ∧ w'.cell? ⟨b1, o1 + i, none⟩ = some (.string a) ∧ w'.cell? ⟨b2, o2 + i, none⟩ = some (.string b)) (first | exact ⟨hb1, hb2, hc1, hc2⟩ | exact ⟨q1, q2, q3, q4⟩)
    (first | (go_at_call 50; (with_reducible refine (HC.out _).mono ?_); rintro e w2 ⟨rfl, hbw⟩; (have HBD := hidH (bDrew' hbw)); (have q1 : w2.cell? ⟨p1, 0, none⟩ = some (.slice (some ⟨b1, o1, none⟩) xs.length c1) := by rw [HBD.out.cell (p := ⟨p1, 0, none⟩) (cell_blk _ _ _ hb1)]; exact hb1); (have q2 : w2.cell? ⟨p2, 0, none⟩ = some (.slice (some ⟨b2, o2, none⟩) ys.length c2) := by rw [HBD.out.cell (p := ⟨p2, 0, none⟩) (cell_blk _ _ _ hb2)]; exact hb2); (have q3 : w2.cell? ⟨b1, o1 + i, none⟩ = some (.string a) := by rw [HBD.out.cell (p := ⟨b1, o1 + i, none⟩) (cell_blk _ _ _ hc1)]; exact hc1); (have q4 : w2.cell? ⟨b2, o2 + i, none⟩ = some (.string b) := by rw [HBD.out.cell (p := ⟨b2, o2 + i, none⟩) (cell_blk _ _ _ hc2)]; exact hc2); clear hbw))
  all_goals
    go_wp2
    go_ret2
    exact ⟨rfl, HBD.out⟩
/-- Three boxes at a call's begin: two engines that came in and the one that goes out. -/
theorem three_boxes (w : World) (u v : Value) : Below w.heap.size w (((w.alloc (.cells #[u] 27)).alloc (.cells #[v] 27)).alloc (.cells #[.slice none 0 0] 27)) ∧ EngAt (((w.alloc (.cells #[u] 27)).alloc (.cells #[v] 27)).alloc (.cells #[.slice none 0 0] 27)) w.heap.size u ∧ EngAt (((w.alloc (.cells #[u] 27)).alloc (.cells #[v] 27)).alloc (.cells #[.slice none 0 0] 27)) (w.heap.size + 1) v ∧ EngAt (((w.alloc (.cells #[u] 27)).alloc (.cells #[v] 27)).alloc (.cells #[.slice none 0 0] 27)) (w.heap.size + 1 + 1) (.slice none 0 0) ∧ (((w.alloc (.cells #[u] 27)).alloc (.cells #[v] 27)).alloc (.cells #[.slice none 0 0] 27)).heap.size = w.heap.size + 3 :=
  ⟨bMore (bMore (belowN' w u) _) _, ((EngAt.fresh w u).alloc _).alloc _, (EngAt.newAt _ _ _ (by simp)).alloc _, EngAt.newAt _ _ _ (by simp), by simp⟩
set_option maxHeartbeats 4000000 in
theorem addEngines_any (u v : Value) (xs ys : List ByteArray) (w : World) (lo hi lo2 hi2 : Nat) (hu : LiesS w lo hi u xs) (hv : LiesS w lo2 hi2 v ys) (hma : ∀ c ∈ xs, c.size ≤ 9223372036854775807) (hmb : ∀ c ∈ ys, c.size ≤ 9223372036854775807) : Calls Tryd.prog 26 #[.agg #[u], .agg #[v]] w (NewEngB (addL xs ys) (addB xs ys) w) := by
  have HLA := hidH hu
  have HLB := hidH hv
  have ⟨t1, t2, t3, t4, t5⟩ := three_boxes w u v
  have BB := hidH t1
  have E1 := hidH t2
  have E2 := hidH t3
  have E3 := hidH t4
  have S3 := hidH t5
  have cA := t2.cell
  have cB := t3.cell
  have SZ0 := hidH (eng_size (.slice none 0 0))
  have HN1 := hidH (addL_no xs ys)
  have HN2 := hidH (addB_no xs ys)
  have HY1 := hidH (addL_yes xs ys)
  have HY2 := hidH (addB_yes xs ys)
  have HOK : Hid (addOk xs ys = (engOk xs && engOk ys && decide (xs.length = ys.length))) := hidH rfl
  generalize addL xs ys = rs at *
  generalize addB xs ys = rb at *
  clear t1 t2 t3 t4 t5
  cases hka : engOk xs
  · obtain rfl := HN1.out (by rw [HOK.out, hka]; rfl)
    obtain rfl := HN2.out (by rw [HOK.out, hka]; rfl)
    have HV := hidH (fun W (h : LiesS W lo hi u xs) => engValid_is false u xs hka W lo hi h hma)
    obtain ⟨a, cap, rfl⟩ := hu.some
    obtain ⟨a2, cap2, rfl⟩ := hv.some
    clear hu hv hma hmb hka HOK
    go_enter Tryd.func26, Tryd.ntmps26
    go_wp2_with fail
    refine (HV.out _ (HLA.out.below BB.out)).mono ?_; rintro e w1 ⟨rfl, hb⟩
    have HB1 := hidH (bThen BB.out hb)
    have F3 := hidH (E3.out.below hb)
    clear hb cA cB
    go_wp2_with (refine wpList_store_row rfl 27 _ _ rfl (w.heap.size + 1 + 1) #[.slice none 0 0] rfl rfl 27 _ F3.out SZ0.out rfl nil_one ?_)
    refine bodyPost_ret (results_engB Tryd.results26 _ _ (w.heap.size + 1 + 1) _ (.bool false) rfl rfl (F3.out.setRow _)) rfl ?_
    exact ⟨_, rfl, RowS.nil _ _ _ _ _ (Nat.zero_le _) (fun _ => rfl), bRow HB1.out (by omega) _⟩
  · have HV := hidH (fun W (h : LiesS W lo hi u xs) => engValid_is true u xs hka W lo hi h hma)
    cases hkb : engOk ys
    · obtain rfl := HN1.out (by rw [HOK.out, hka, hkb]; rfl)
      obtain rfl := HN2.out (by rw [HOK.out, hka, hkb]; rfl)
      have HV2 := hidH (fun W (h : LiesS W lo2 hi2 v ys) => engValid_is false v ys hkb W lo2 hi2 h hmb)
      obtain ⟨a, cap, rfl⟩ := hu.some
      obtain ⟨a2, cap2, rfl⟩ := hv.some
      clear hu hv hma hmb hka hkb HOK
      go_enter Tryd.func26, Tryd.ntmps26
      go_wp2_with fail
      refine (HV.out _ (HLA.out.below BB.out)).mono ?_; rintro e w1 ⟨rfl, hb⟩
      have HB1 := hidH (bThen BB.out hb)
      have F2 := hidH (E2.out.below hb)
      have F3 := hidH (E3.out.below hb)
      clear hb cA cB
      have cB := F2.out.cell
      go_wp2_with fail
      refine (HV2.out _ (HLB.out.below HB1.out)).mono ?_; rintro e w2 ⟨rfl, hb⟩
      have HB2 := hidH (bThen HB1.out hb)
      have K3 := hidH (F3.out.below hb)
      clear hb cB
      go_wp2_with (refine wpList_store_row rfl 27 _ _ rfl (w.heap.size + 1 + 1) #[.slice none 0 0] rfl rfl 27 _ K3.out SZ0.out rfl nil_one ?_)
      refine bodyPost_ret (results_engB Tryd.results26 _ _ (w.heap.size + 1 + 1) _ (.bool false) rfl rfl (K3.out.setRow _)) rfl ?_
      exact ⟨_, rfl, RowS.nil _ _ _ _ _ (Nat.zero_le _) (fun _ => rfl), bRow HB2.out (by omega) _⟩
    · have HV2 := hidH (fun W (h : LiesS W lo2 hi2 v ys) => engValid_is true v ys hkb W lo2 hi2 h hmb)
      have ⟨a1, a7, na, _, _, halla⟩ := engOk_parts xs hka
      have ⟨b1, b7, nb, _, _, hallb⟩ := engOk_parts ys hkb
      obtain ⟨ba, oa, ca, rfl, hlca, hcma, hloa, hhia, hbwa, hcella⟩ := hu.addr (by omega)
      obtain ⟨bb, ob, cb, rfl, hlcb, hcmb, hlob, hhib, hbwb, hcellb⟩ := hv.addr (by omega)
      have HCA := hidH hcella
      have HCB := hidH hcellb
      have HAA := hidH halla
      have HAB := hidH hallb
      unfold maxLen at hcma hcmb
      clear hcella hcellb halla hallb hu hv hma hmb
      by_cases hl : xs.length = ys.length
      · obtain rfl := HY1.out (by rw [HOK.out, hka, hkb, decide_eq_true hl]; rfl)
        obtain rfl := HY2.out (by rw [HOK.out, hka, hkb, decide_eq_true hl]; rfl)
        have HLX := hidH (listA_len (addC xs ys) xs.length)
        have hlb' : ((xs.length : Int) != (ys.length : Int)) = false := by rw [hl]; exact bne_self_eq_false _
        have HLE := hidH hl
        clear hka hkb HOK hl HN1 HN2 HY1 HY2
        go_enter Tryd.func26, Tryd.ntmps26
        go_wp2_with fail
        refine (HV.out _ (HLA.out.below BB.out)).mono ?_; rintro e w1 ⟨rfl, hb⟩
        have HB1 := hidH (bThen BB.out hb)
        have F1 := hidH (E1.out.below hb)
        have F2 := hidH (E2.out.below hb)
        have F3 := hidH (E3.out.below hb)
        have hs1 := hb.size
        rw [S3.out] at hs1
        clear hb cA cB
        have cA := F1.out.cell
        have cB := F2.out.cell
        go_wp2_with fail
        refine (HV2.out _ (HLB.out.below HB1.out)).mono ?_; rintro e w2 ⟨rfl, hb⟩
        have HB2 := hidH (bThen HB1.out hb)
        have K1 := hidH (F1.out.below hb)
        have K2 := hidH (F2.out.below hb)
        have K3 := hidH (F3.out.below hb)
        have hs2 := hb.size
        clear hb cA cB
        have cA := K1.out.cell
        have cB := K2.out.cell
        have HE := hidH (engineOf_add ⟨w.heap.size, 0, none⟩ ⟨w.heap.size + 1, 0, none⟩ (addC xs ys) xs.length w2 (by omega) (fun i W hi hbl => by
          obtain ⟨a, ha⟩ := get_lt xs i hi
          obtain ⟨b, hb⟩ := get_lt ys i (by rw [← HLE.out]; exact hi)
          exact addAt_any xs ys ba oa ca bb ob cb w.heap.size (w.heap.size + 1) i a b W ha hb (HAA.out a (List.mem_of_getElem? ha)).1 (HAB.out b (List.mem_of_getElem? hb)).1 hlca (by omega) hlcb (by omega)
            (by rw [hbl.cell (p := ⟨w.heap.size, 0, none⟩) (by show w.heap.size < _; omega)]; exact K1.out.cell)
            (by rw [hbl.cell (p := ⟨w.heap.size + 1, 0, none⟩) (by show w.heap.size + 1 < _; omega)]; exact K2.out.cell)
            (by rw [hbl.cell (p := ⟨ba, oa + i, none⟩) (by show ba < _; omega), HB2.out.cell (p := ⟨ba, oa + i, none⟩) hbwa]; exact HCA.out i a ha)
            (by rw [hbl.cell (p := ⟨bb, ob + i, none⟩) (by show bb < _; omega), HB2.out.cell (p := ⟨bb, ob + i, none⟩) hbwb]; exact HCB.out i b hb)))
        generalize listA (addC xs ys) xs.length = rs at *
        generalize allA (addC xs ys) xs.length = rb at *
        go_wp2_with fail
        refine HE.out.mono ?_; rintro e w3 ⟨v2, rfl, hr, hb⟩
        have HB3 := hidH (bThen HB2.out hb)
        have M3 := hidH (K3.out.below hb)
        have HR := hidH hr
        obtain ⟨a2, cap2, rfl⟩ := hr.some
        clear hr hb cA cB
        have SZ := hidH (eng_size (.slice a2 rs.length cap2))
        have SO := hidH (slice_one a2 rs.length cap2)
        go_wp2_with (refine wpList_store_row rfl 27 _ _ rfl (w.heap.size + 1 + 1) #[.slice a2 rs.length cap2] rfl rfl 27 _ M3.out SZ.out rfl SO.out ?_)
        refine bodyPost_ret (results_engB Tryd.results26 _ _ (w.heap.size + 1 + 1) _ (.bool rb) rfl rfl (M3.out.setRow _)) rfl ?_
        exact ⟨_, rfl, (HR.out.apart (Apart.of_onto (lo := w.heap.size + 2) (hi := w.heap.size + 3) (onto_setRow (w.heap.size + 1 + 1) _ _) (by omega) (by omega)) (.inr (by omega))).mono (by omega) (by simp), bRow HB3.out (by omega) _⟩
      · obtain rfl := HN1.out (by rw [HOK.out, hka, hkb, decide_eq_false hl]; rfl)
        obtain rfl := HN2.out (by rw [HOK.out, hka, hkb, decide_eq_false hl]; rfl)
        have hlb' : ((xs.length : Int) != (ys.length : Int)) = true := bne_iff_ne.2 (by omega)
        clear hka hkb HOK hl
        go_enter Tryd.func26, Tryd.ntmps26
        go_wp2_with fail
        refine (HV.out _ (HLA.out.below BB.out)).mono ?_; rintro e w1 ⟨rfl, hb⟩
        have HB1 := hidH (bThen BB.out hb)
        have F1 := hidH (E1.out.below hb)
        have F2 := hidH (E2.out.below hb)
        have F3 := hidH (E3.out.below hb)
        clear hb cA cB
        have cB := F2.out.cell
        go_wp2_with fail
        refine (HV2.out _ (HLB.out.below HB1.out)).mono ?_; rintro e w2 ⟨rfl, hb⟩
        have HB2 := hidH (bThen HB1.out hb)
        have K3 := hidH (F3.out.below hb)
        have cA := (F1.out.below hb).cell
        have cB2 := (F2.out.below hb).cell
        clear hb cB
        go_wp2_with (refine wpList_store_row rfl 27 _ _ rfl (w.heap.size + 1 + 1) #[.slice none 0 0] rfl rfl 27 _ K3.out SZ0.out rfl nil_one ?_)
        refine bodyPost_ret (results_engB Tryd.results26 _ _ (w.heap.size + 1 + 1) _ (.bool false) rfl rfl (K3.out.setRow _)) rfl ?_
        exact ⟨_, rfl, RowS.nil _ _ _ _ _ (Nat.zero_le _) (fun _ => rfl), bRow HB2.out (by omega) _⟩
end Go.Proofs.YtliakbgigkajnaaDoor
