/-
  ReadEngine: the program and the model, at every list of texts. Condition: texts that fit in memory.
-/
import Derived.Test.YtffmhcahiabicaaDoorEngA
import Derived.Test.YtffmhcahiabicaaDoorPolyI
namespace Go.Proofs.YtffmhcahiabicaaDoor
set_option maxRecDepth 4000
set_option linter.unusedVariables false
open Go.RowKit
/-- What the columns stand for. -/
def sgnL (cs : List ByteArray) : List Int := cs.map sgnS
theorem sgnL_length (cs : List ByteArray) : (sgnL cs).length = cs.length := by simp [sgnL]
theorem sgnL_at (cs : List ByteArray) (k : Nat) (c : ByteArray) (h : cs[k]? = some c) : (sgnL cs)[k]? = some (sgnS c) := by simp [sgnL, h]
/-- The polynomial that ReadEngine answers. -/
def readL (cs : List ByteArray) : List Int := if engOk cs then resL (sgnL cs) else []
/-- Whether there is one. -/
def readB (cs : List ByteArray) : Bool := engOk cs && polyOk (sgnL cs)
theorem readL_yes (cs : List ByteArray) (h : engOk cs = true) : readL cs = resL (sgnL cs) := by rw [readL, h]; rfl
theorem readL_no (cs : List ByteArray) (h : engOk cs = false) : readL cs = [] := by rw [readL, h]; rfl
theorem readB_yes (cs : List ByteArray) (h : engOk cs = true) : readB cs = polyOk (sgnL cs) := by rw [readB, h]; rfl
theorem readB_no (cs : List ByteArray) (h : engOk cs = false) : readB cs = false := by rw [readB, h]; rfl
theorem readL_len (cs : List ByteArray) : (readL cs).length ≤ 1048576 := by
  unfold readL
  split
  · exact resL_len _
  · simp
theorem readEngine_any (v : Value) (cs : List ByteArray) (w : World) (lo hi : Nat) (hv : LiesS w lo hi v cs) (hm : ∀ c ∈ cs, c.size ≤ 9223372036854775807) : Calls Tryd.prog 28 #[.agg #[v]] w (NewRowB (readL cs) (readB cs) w) := by
  cases hk : engOk cs
  · have HV := hidH (fun W (h : LiesS W lo hi v cs) => engValid_is false v cs hk W lo hi h hm)
    have HX := hidH (readL_no cs hk)
    have HXB := hidH (readB_no cs hk)
    have HL := hidH hv
    have BB := hidH (belowN' w v)
    have cA := (EngAt.fresh w v).cell
    obtain ⟨a, cap, rfl⟩ := hv.some
    clear hv hm hk
    go_enter Tryd.func28, Tryd.ntmps28
    go_wp2_with fail
    refine (HV.out _ (HL.out.below BB.out)).mono ?_; rintro e w1 ⟨rfl, hb⟩
    have HB := hidH (bThen BB.out hb)
    clear hb cA
    go_wp2
    go_ret2
    rw [HX.out, HXB.out]
    exact ⟨_, rfl, Row.nil _ _ _ _ _ (Nat.zero_le _) (fun _ => rfl), HB.out⟩
  · have HV := hidH (fun W (h : LiesS W lo hi v cs) => engValid_is true v cs hk W lo hi h hm)
    have HX := hidH (readL_yes cs hk)
    have HXB := hidH (readB_yes cs hk)
    have HL := hidH hv
    have BB := hidH (belowN' w v)
    have E1 := hidH (EngAt.fresh w v)
    have cA := E1.out.cell
    have ⟨h1, h7, n0, _, _, hall⟩ := engOk_parts cs hk
    have HS := hidH (fun k c (hc : cs[k]? = some c) W => signed_yes c (ok_size _ (hall c (List.mem_of_getElem? hc)).1) W (hall c (List.mem_of_getElem? hc)).1)
    obtain ⟨b, off, cap, rfl, hlc, hcm, hlo, hhi, hbw, hcell⟩ := hv.addr (by omega)
    have HC := hidH hcell
    unfold maxLen at hcm
    clear hv hm hk hcell hall
    go_enter Tryd.func28, Tryd.ntmps28
    go_wp2_with fail
    refine (HV.out _ (HL.out.below BB.out)).mono ?_; rintro e w1 ⟨rfl, hb⟩
    have E2 := hidH (E1.out.below hb)
    have HB1 := hidH (bThen BB.out hb)
    clear hb cA
    have cA := E2.out.cell
    have HM := hidH (Blk.made w1 3 cs.length)
    have HLN := hidH (sgnL_length cs)
    have hmk := run_make_row' (P := Tryd.prog) 41 3 (.int .i64 0) 8 Tryd.underlying41 infoInt rfl .i64 .i64 cs.length (by omega) (by omega) w1
    go_wp2
    go_loopw [15] (fun i wr => ∃ k : Nat, k ≤ cs.length ∧ i = .int .i64 k ∧ Blk wr w1.heap.size (fill (sgnL cs) k) ∧ Below w1.heap.size w1 wr) (fun i _ => cs.length - (intOf i).toNat)
    case atStart => exact ⟨0, Nat.zero_le _, rfl, by rw [fill_zero, HLN.out]; exact HM.out, (Below.refl _ _).alloc (Nat.le_refl _) _⟩
    case round =>
      obtain ⟨k, hk, rfl, hB, hb⟩ := hrel
      have HB := hidH hB
      have Hb := hidH hb
      have HBW := hidH (bThen HB1.out hb)
      have cR := (E2.out.below hb).cell
      clear hB hb cA
      by_cases hlt : k < cs.length
      · obtain ⟨c, hc⟩ := get_lt cs k hlt
        have hcw : wr.cell? ⟨b, off + k, none⟩ = some (.string c) := by rw [HBW.out.cell (p := ⟨b, off + k, none⟩) hbw]; exact HC.out k c hc
        have HCC := hidH hc
        clear hc
        go_wp2_with fail
        refine (HS.out k c HCC.out _).mono ?_; rintro e w2 ⟨rfl, hb2⟩
        have HB2 := hidH (HB.out.below hb2)
        have Hb2 := hidH (bThen Hb.out hb2)
        obtain ⟨ho, hf⟩ := HB2.out.2 k 0 (fill_at (sgnL cs) k (by rw [HLN.out]; exact hlt))
        clear hb2 hcw cR
        go_wp2
        go_roundw
        case rel => exact ⟨k + 1, by omega, by go_num, by rw [← fill_set (sgnL cs) k _ (sgnL_at cs k c HCC.out)]; exact HB2.out.set k _, Hb2.out.setCell (Nat.le_refl _) _⟩
        case measure => simp [intOf]; omega
      · obtain rfl : k = cs.length := by omega
        have HR : Hid (Row wr w1.heap.size wr.heap.size (.slice (some ⟨w1.heap.size, 0, none⟩) cs.length cs.length) (sgnL cs)) := hidH (by
          have hB := HB.out
          have e := fill_all (sgnL cs)
          rw [HLN.out] at e
          rw [e] at hB
          exact hB.row (Nat.le_refl _) hB.1 (by rw [HLN.out]; exact Nat.le_refl _) (by unfold maxLen; omega) HLN.out.symm)
        go_wp2_with fail
        refine (ifPoly_any _ _ _ _ HR.out).mono ?_; rintro e w2 ⟨v2, rfl, hr, hb2⟩
        have HR2 := hidH hr
        have HB2 := hidH (bThen HBW.out hb2)
        have hs1 := HB1.out.size
        clear hr hb2
        go_wp2
        go_ret2
        rw [HX.out, HXB.out]
        exact ⟨_, rfl, HR2.out.mono hs1 (Nat.le_refl _), HB2.out⟩
theorem sReadEngine_any (v : Value) (cs : List ByteArray) (w : World) (lo hi : Nat) (hv : LiesS w lo hi v cs) (hm : ∀ c ∈ cs, c.size ≤ 9223372036854775807) : Calls Tryd.prog 34 #[.agg #[v]] w (NewRowB (readL cs) (readB cs) w) := by
  cases hk : engOk cs
  · have HV := hidH (fun W (h : LiesS W lo hi v cs) => sEngValid_is false v cs hk W lo hi h hm)
    have HX := hidH (readL_no cs hk)
    have HXB := hidH (readB_no cs hk)
    have HL := hidH hv
    have BB := hidH (bMore (belowN' w v) (.cells #[] 3))
    have cA := ((EngAt.fresh w v).alloc (.cells #[] 3)).cell
    obtain ⟨a, cap, rfl⟩ := hv.some
    clear hv hm hk
    go_enter Tryd.func34, Tryd.ntmps34
    go_wp2_with fail
    refine (HV.out _ (HL.out.below BB.out)).mono ?_; rintro e w1 ⟨rfl, hb⟩
    have HB := hidH (bThen BB.out hb)
    clear hb cA
    go_wp2
    go_ret2
    rw [HX.out, HXB.out]
    exact ⟨_, rfl, Row.nil _ _ _ _ _ (Nat.zero_le _) (fun h => by cases h), HB.out⟩
  · have HV := hidH (fun W (h : LiesS W lo hi v cs) => sEngValid_is true v cs hk W lo hi h hm)
    have HX := hidH (readL_yes cs hk)
    have HXB := hidH (readB_yes cs hk)
    have HL := hidH hv
    have BB := hidH (bMore (belowN' w v) (.cells #[] 3))
    have E1 := hidH ((EngAt.fresh w v).alloc (.cells #[] 3))
    have OW0 := hidH (World.ownsRow_made (base := w.heap.size + 1) (size := 1) (e := 3) (w.alloc (.cells #[v] 26)) #[] 0 (by simp) (by decide) rfl)
    have hsz : (w.alloc (.cells #[v] 26)).heap.size = w.heap.size + 1 := by simp
    rw [hsz] at OW0
    have cA := E1.out.cell
    have ⟨h1, h7, n0, _, _, hall⟩ := engOk_parts cs hk
    have HS := hidH (fun k c (hc : cs[k]? = some c) W => l1Signed_any c W (hall c (List.mem_of_getElem? hc)).1)
    obtain ⟨i0, hi0, hz0, hz1, hz2⟩ := info_parts infoInt
    obtain ⟨b, off, cap, rfl, hlc, hcm, hlo, hhi, hbw, hcell⟩ := hv.addr (by omega)
    have HC := hidH hcell
    unfold maxLen at hcm
    clear hv hm hk hcell hall hsz
    go_enter Tryd.func34, Tryd.ntmps34
    go_wp2_with fail
    refine (HV.out _ (HL.out.below BB.out)).mono ?_; rintro e w1 ⟨rfl, hb⟩
    have E2 := hidH (E1.out.below hb)
    have OW1 := hidH (owns_below OW0.out hb)
    have HB1 := hidH (bThen BB.out hb)
    have hs1 : w.heap.size + 1 ≤ w1.heap.size := by have := hb.size; simp at this; omega
    clear hb cA
    have HLN := hidH (sgnL_length cs)
    go_wp2
    go_loopw [4, 5] (fun o i wr => ∃ (k : Nat) (ov : Value), k ≤ cs.length ∧ i = .int .i64 k ∧ ov = o ∧ wr.ownsRow (w.heap.size + 1) 3 1 ov k (ints ((sgnL cs).take k)) ∧ Below (w.heap.size + 1) w1 wr) (fun _ i _ => cs.length - (intOf i).toNat)
    case atStart => exact ⟨0, _, Nat.zero_le _, rfl, rfl, OW1.out, Below.refl _ _⟩
    case round =>
      obtain ⟨k, ov, hk, rfl, rfl, hown, hb⟩ := hrel
      have HW := hidH hown
      have Hb := hidH hb
      have HBW := hidH (HB1.out.trans (hb.mono (Nat.le_succ _)))
      have cR := (E2.out.lowB hb (Nat.lt_succ_self _)).cell
      have hsr : w.heap.size + 1 ≤ wr.heap.size := by have := hb.size; omega
      clear hown hb
      by_cases hlt : k < cs.length
      · obtain ⟨c, hc⟩ := get_lt cs k hlt
        have hcw : wr.cell? ⟨b, off + k, none⟩ = some (.string c) := by rw [HBW.out.cell (p := ⟨b, off + k, none⟩) hbw]; exact HC.out k c hc
        have HCC := hidH hc
        have HNX := hidH (take_get (sgnL cs) k _ (sgnL_at cs k c hc))
        clear hc
        go_wp2_with fail
        refine (HS.out k c HCC.out _).mono ?_; rintro e w2 ⟨rfl, rfl⟩
        go_wp2_with (at_builtin; refine wpList_append_own _ rfl _ _ 41 rfl (w.heap.size + 1) 3 i0 (.int .i64 0) 1 8 Tryd.underlying41 hi0 hz0 hz1 hz2 rfl (by decide) ov k (ints ((sgnL cs).take k)) rfl (HW.out.alloc _) ⟨wr.heap.size, 0, none⟩ 1 1 [.int .i64 (sgnS c)] rfl rfl (news_one wr _ _) (one_one _) (by unfold maxLen; omega) (by omega) (by simp; omega) ?_)
        intro v' w5 hown1 hgrow _
        have HR := hidH hown1
        have HBL := hidH (((Below.refl (w.heap.size + 1) wr).alloc hsr (.cells #[.int .i64 (sgnS c)] 3)).grown hgrow (by simp; omega) fun g hg => (HW.out.lt g hg).1)
        clear hown1 hgrow hcw cR
        go_wp2_with fail
        go_roundw
        case rel => exact ⟨k + 1, v', by omega, by go_num, rfl, by rw [HNX.out, ints_append]; exact HR.out, Hb.out.trans HBL.out⟩
        case measure => simp [intOf]; omega
      · obtain rfl : k = cs.length := by omega
        have hfull : (sgnL cs).take cs.length = sgnL cs := List.take_of_length_le (by rw [HLN.out]; exact Nat.le_refl _)
        have HW2 := hidH (row_of_owns (show wr.ownsRow (w.heap.size + 1) 3 1 ov cs.length (ints (sgnL cs)) by rw [← hfull]; exact HW.out)).1
        have HQ := hidH (fun W (h : Row W (w.heap.size + 1) W.heap.size ov (sgnL cs)) => sPolyValid_any ov (sgnL cs) W _ _ h.lies)
        clear hfull
        cases hpk : polyOk (sgnL cs)
        · rw [hpk] at HQ
          have HPK := hidH hpk
          clear hpk
          go_wp2_with fail
          refine (HQ.out _ HW2.out).mono ?_; rintro e w2 ⟨rfl, rfl⟩
          go_wp2
          go_ret2
          rw [HX.out, HXB.out, resL, HPK.out]
          exact ⟨_, rfl, Row.nil _ _ _ _ _ (Nat.zero_le _) (fun h => by cases h), bMore HBW.out _⟩
        · rw [hpk] at HQ
          have HPK := hidH hpk
          clear hpk
          go_wp2_with fail
          refine (HQ.out _ HW2.out).mono ?_; rintro e w2 ⟨rfl, rfl⟩
          go_wp2
          go_ret2
          rw [HX.out, HXB.out, resL, HPK.out]
          exact ⟨_, rfl, HW2.out.mono (Nat.le_succ _) (Nat.le_refl _), HBW.out⟩
end Go.Proofs.YtffmhcahiabicaaDoor
