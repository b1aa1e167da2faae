/-
  ParsePoly of the program and of the model. Conditions: a text of at most 1048576 bytes; the library's tables and errors are as its own text lays them, and its variable MaxLen holds some number.
-/
import Derived.Test.YtoahialihfijjaaDoorStrH
import Derived.Test.YtoahialihfijjaaDoorStrBw
import Derived.Test.YtoahialihfijjaaDoorStrNum
namespace Go.Proofs.YtoahialihfijjaaDoor
set_option maxRecDepth 4000
open Go.RowKit Go.Shelf
/-- The library's own variable holds some number. -/
def MaxT (w : World) : Prop := ∃ m, w.cell? ⟨3, 0, none⟩ = some (.int .i64 m)
theorem MaxT.below {w w' : World} (h : MaxT w) (hb : Below w.heap.size w w') : MaxT w' := by
  obtain ⟨m, hm⟩ := h
  exact ⟨m, by rw [hb.cell (p := ⟨3, 0, none⟩) (cell_blk _ _ _ hm)]; exact hm⟩
theorem max_of {W : World} (h : W.ShapedOpen Tryd.prog) : MaxT W := lays147.s1_3 W h
theorem cellsOf_at (ps : List ByteArray) (N j : Nat) (z : ByteArray) (hj : ps[j]? = some z) : (Lib.cellsOf ps N)[j]? = some (.string z) := by
  have hlt := (List.getElem?_eq_some_iff.1 hj).1
  unfold Lib.cellsOf
  rw [List.getElem?_toArray, List.getElem?_append_left (by rw [List.length_map]; exact hlt), List.getElem?_map, hj]
  rfl
theorem text_ne (a b : ByteArray) (h : ¬ a = b) : (a.toList == b.toList) = false := by
  rw [Lib.toList_data, Lib.toList_data, beq_eq_false_iff_ne]
  intro e
  exact h (ByteArray.ext (Array.ext' e))
theorem split_size (sep : ByteArray) : ∀ (k : Nat) (s : ByteArray), ∀ x ∈ Lib.splitB sep 0 k s, x.size ≤ s.size
  | 0, s, x, hx => by
    rw [Lib.splitB_zero] at hx
    simp at hx
    rw [hx]
    exact Nat.le_refl _
  | k + 1, s, x, hx => by
    unfold Lib.splitB at hx
    split at hx
    · simp at hx
      rw [hx]
      exact Nat.le_refl _
    · rcases List.mem_cons.1 hx with rfl | hx
      · rw [ByteArray.size_extract]; omega
      · have := split_size sep k _ x hx
        rw [ByteArray.size_extract] at this
        omega
theorem parts_size (s : ByteArray) : ∀ x ∈ partsOf s, x.size ≤ s.size := split_size _ _ s
theorem splitN_any (s : ByteArray) (w : World) (hs : s.size ≤ 1048576) (hM : MaxT w) : Calls Tryd.prog 25 #[.string s, .string ⟨#[32]⟩, .int .i64 8] w (NewRowS (partsOf s) w) := by
  obtain ⟨m, hm⟩ := hM
  have h := Any.strings_SplitN { lays147 with } (by kernel_rfl) s ⟨#[32]⟩ 8 m w (by omega) hm (by decide) (by decide) (by decide)
  change Calls Tryd.prog 25 _ _ _ at h
  refine h.mono ?_
  rintro e w' ⟨he, rfl⟩
  have hl := Lib.splitB_length_le ⟨#[32]⟩ 0 (min 8 (s.size + 1) - 1) s
  have hb : BlkS (w.alloc (.cells (Lib.cellsOf (partsOf s) (min 8 (s.size + 1))) 9)) w.heap.size (partsOf s) := by
    refine ⟨by simp, fun j z hj => ⟨?_, cells_frozen _ _ _ _⟩⟩
    rw [World.cell?_alloc_at _ _ _ _ rfl]
    exact cellsOf_at _ _ _ _ hj
  exact ⟨_, he, hb.row (Nat.le_refl _) (by simp) (by unfold partsOf; omega) (by unfold maxLen; omega) rfl, (Below.refl _ _).alloc (Nat.le_refl _) _⟩
/-- The polynomial of a text, or nothing. -/
def ppA (s : ByteArray) : List Int := if ppB s then ppO s else []
theorem ppA_yes (s : ByteArray) (h : ppB s = true) : ppA s = ppO s := by unfold ppA; rw [if_pos h]
theorem ppA_no (s : ByteArray) (h : ppB s = false) : ppA s = [] := by unfold ppA; rw [if_neg (by rw [h]; decide)]
set_option maxHeartbeats 2000000 in
theorem parsePoly_any (s : ByteArray) (w : World) (hs : s.size ≤ 1048576) (hT : PowT w) (hE : ErrT w) (hM : MaxT w) : Calls Tryd.prog 10 #[.string s] w (NewRowB (ppA s) (ppB s) w) := by
  have HS := hidH (splitN_any s w hs hM)
  have HT := hidH hT
  have HE := hidH hE
  have HL := hidH (parts_len s)
  have HZ := hidH (parts_size s)
  have HP := hidH (parts_of_ppB s)
  have HQ := hidH (ppB_of_parts s)
  clear hT hE hM
  go_enter Tryd.func10, Tryd.ntmps10
  go_wp2_with fail
  refine HS.out.mono ?_; rintro e w1 ⟨v1, rfl, hr, hb⟩
  have hn8 := HL.out
  have hT8 : ((partsOf s).map atV).length = (partsOf s).length := List.length_map _
  have HT8 := hidH hT8
  clear hT8
  generalize partsOf s = ps at *
  obtain ⟨a, cap, rfl, hlc, hcm, hnil, hcell⟩ := hr
  unfold maxLen at hcm
  have HC := hidH hcell
  have HB := hidH hb
  clear hcell hnil hb HS HL
  have hmk := run_make_row' (P := Tryd.prog) 23 3 (.int .i64 0) 8 Tryd.underlying23 infoInt rfl .i64 .i64 ps.length (by omega) (by omega) w1
  have HM := hidH (Blk.made w1 3 ps.length)
  have HBm := hidH ((HB.out).alloc HB.out.size (.cells (madeCells #[Value.int .i64 0] ps.length) 3))
  have HBn := hidH ((Below.refl w1.heap.size w1).alloc (Nat.le_refl _) (.cells (madeCells #[Value.int .i64 0] ps.length) 3))
  have hlt1 : w.heap.size ≤ w1.heap.size := HB.out.size
  go_wp2
  go_loopw [16] (fun i wr => ∃ k : Nat, k ≤ ps.length ∧ i = .int .i64 k ∧ Blk wr w1.heap.size (fill (ps.map atV) k) ∧ (∀ s ∈ ps.take k, atK s = true) ∧ Below w.heap.size w wr ∧ Below w1.heap.size w1 wr) (fun i _ => ps.length - (intOf i).toNat)
  case atStart => exact ⟨0, Nat.zero_le _, rfl, by rw [fill_zero, HT8.out]; exact HM.out, by simp, HBm.out, HBn.out⟩
  case round =>
    obtain ⟨k, hk, rfl, hB, hall, hb, hb1⟩ := hrel
    have HBk := hidH hB
    have HA := hidH hall
    have HBr := hidH hb
    have HB1 := hidH hb1
    clear hB hall hb hb1 HM HBm HBn
    by_cases hlt : k < ps.length
    · obtain ⟨x, hx⟩ := get_lt ps k hlt
      obtain ⟨b, rfl, _, hbh, hc, _⟩ := HC.out k x hx
      have hcw : wr.cell? ⟨b, k, none⟩ = some (.string x) := by rw [HB1.out.cell (p := ⟨b, k, none⟩) hbh]; exact hc
      have hsx : x.size ≤ 281474976710656 := by have := HZ.out x (List.mem_of_getElem? hx); omega
      have HX := hidH hx
      cases hat : atK x
      · have HI := hidH fun (W : World) (hb : Below w.heap.size w W) => atoi_no x hsx (atK_no x hat) W (HE.out.below hb)
        have hno : ppB s = false := Bool.eq_false_iff.2 fun h => by
          have := (HP.out h).1 x (List.mem_of_getElem? hx)
          rw [hat] at this
          cases this
        rw [ppA_no s hno, hno]
        clear hx hc hat hno
        go_wp2_with fail
        refine (HI.out _ HBr.out).mono ?_; rintro e w2 ⟨y, T, p, rfl, hb⟩
        have HB2 := hidH (HBr.out.trans (hb.mono HBr.out.size))
        clear hb
        go_wp2
        go_ret2
        exact ⟨_, rfl, Row.nil _ _ _ none 0 (Nat.zero_le _) (fun _ => rfl), HB2.out⟩
      · have HI := hidH fun (W : World) => atoi_yes x hsx (atV x) (atK_yes x hat) W
        have ⟨b0, b1⟩ := Lib.atoiAll_bounds (atK_yes x hat)
        have hxm : (ps.map atV)[k]? = some (atV x) := by rw [List.getElem?_map, hx]; rfl
        have HTk := hidH (show ∀ s ∈ ps.take (k + 1), atK s = true by
          intro z hz
          rw [List.take_add_one, hx] at hz
          rcases List.mem_append.1 hz with hz | hz
          · exact HA.out z hz
          · simp at hz; rw [hz]; exact hat)
        have HSt := hidH (fill_set (ps.map atV) k (atV x) hxm)
        clear hx hc hat hxm
        generalize atV x = v at *
        go_wp2_with fail
        refine (HI.out _).mono ?_; rintro e w2 ⟨rfl, hb⟩
        have HB2 := hidH (HBr.out.trans (hb.mono HBr.out.size))
        have HB3 := hidH (HB1.out.trans (hb.mono HB1.out.size))
        have HK2 := hidH (HBk.out.below hb)
        obtain ⟨ho, hf⟩ := HK2.out.2 k 0 (fill_at (ps.map atV) k (by rw [HT8.out]; exact hlt))
        clear hb HBr HB1 HBk
        go_wp2
        go_roundw
        case rel => exact ⟨k + 1, by omega, by go_num, by rw [← HSt.out]; exact HK2.out.set k _, HTk.out, HB2.out.setCell hlt1 _, HB3.out.setCell (Nat.le_refl _) _⟩
        case measure => simp [intOf]; omega
    · obtain rfl : k = ps.length := by omega
      have hB := HBk.out
      have hall := HA.out
      rw [← HT8.out, fill_all] at hB
      rw [List.take_length] at hall
      have HBf := hidH hB
      have hlen := HT8.out
      have HF := hidH (formatPoly_any (.slice (some ⟨w1.heap.size, 0, none⟩) ps.length ps.length) (ps.map atV) wr 0 (w1.heap.size + 1) (hB.row (Nat.zero_le _) (Nat.lt_succ_self _) (by rw [hlen]; exact Nat.le_refl _) (by unfold maxLen; omega) hlen.symm).lies (HT.out.below HBr.out))
      clear hB
      by_cases he : fpB (ps.map atV) = s
      · have ⟨q1, q2⟩ := HQ.out hall he
        have HA1 := hidH (show ppA s = ps.map atV by rw [ppA_yes s q1, q2])
        have HA2 := hidH q1
        rw [he] at HF
        clear hall he q1 q2 hlen
        go_wp2_with fail
        refine HF.out.mono ?_; rintro e w2 ⟨rfl, hb⟩
        have HB2 := hidH (HBr.out.trans (hb.mono HBr.out.size))
        have HK2 := hidH (HBf.out.below hb)
        clear hb
        go_wp2
        go_ret2
        refine ⟨_, by rw [HA2.out]; rfl, ?_, HB2.out⟩
        rw [HA1.out]
        exact HK2.out.row hlt1 HK2.out.1 (by rw [HT8.out]; exact Nat.le_refl _) (by unfold maxLen; omega) HT8.out.symm
      · have q1 : ppB s = false := Bool.eq_false_iff.2 fun h => by
          have h2 := (HP.out h).2
          rw [h2] at he
          exact he (of_decide_eq_true h)
        have b2 := text_ne _ _ he
        have HA1 := hidH (ppA_no s q1)
        have HA2 := hidH q1
        clear hall he q1 hlen
        generalize fpB (ps.map atV) = t at *
        go_wp2_with fail
        refine HF.out.mono ?_; rintro e w2 ⟨rfl, hb⟩
        have HB2 := hidH (HBr.out.trans (hb.mono HBr.out.size))
        clear hb
        go_wp2
        go_ret2
        refine ⟨_, by rw [HA2.out]; rfl, ?_, HB2.out⟩
        rw [HA1.out]
        exact Row.nil _ _ _ none 0 (Nat.zero_le _) (fun _ => rfl)
end Go.Proofs.YtoahialihfijjaaDoor
