/-
  PlanValues: the program, at every argument. No conditions but that slices fit in memory.
-/
import Derived.Test.YteacpfejjphabaaPlnA
import Derived.Test.YteacpfejjphabaaPolyFe
import Derived.Test.YteacpfejjphabaaBox
namespace Go.Proofs.Yteacpfejjphabaa
set_option maxRecDepth 4000
open Go.RowKit
/-- A segment that can stand in a plan. -/
def segOk (s : Int × List Int) : Bool := polyOk s.2 && (decide ((1 : Int) ≤ s.1 ∧ s.1 ≤ 60) && tableOk (vals s.2 0 s.1.toNat))
def segV (s : Int × List Int) : List Int := vals s.2 0 s.1.toNat
/-- The values of a plan. -/
def planL (cs : List (Int × List Int)) : List Int := cs.flatMap segV
def planOk (cs : List (Int × List Int)) : Bool := decide (1 ≤ cs.length) && (cs.all segOk && decide ((planL cs).length ≤ 60))
def planA (cs : List (Int × List Int)) : List Int := if planOk cs then planL cs else []
theorem planA_len (cs : List (Int × List Int)) : (planA cs).length ≤ 1048576 := by
  unfold planA
  split
  · rename_i h
    simp only [planOk, Bool.and_eq_true, decide_eq_true_eq] at h
    omega
  · simp
theorem segV_length (s : Int × List Int) : (segV s).length = s.1.toNat := vals_length _ _ _
theorem planL_snoc (cs : List (Int × List Int)) (k : Nat) (s : Int × List Int) (h : cs[k]? = some s) : planL (cs.take (k + 1)) = planL (cs.take k) ++ segV s := by
  unfold planL
  rw [List.take_add_one, h, List.flatMap_append]
  simp
theorem planL_take (cs : List (Int × List Int)) (k : Nat) : (planL (cs.take k)).length ≤ (planL cs).length := by
  have h : planL cs = planL (cs.take k) ++ planL (cs.drop k) := by
    unfold planL
    rw [← List.flatMap_append, List.take_append_drop]
  rw [h, List.length_append]
  omega
theorem planOk_bad {cs : List (Int × List Int)} {k : Nat} {s : Int × List Int} (h : cs[k]? = some s) (hs : segOk s = false) : planOk cs = false := by
  have : cs.all segOk = false := by
    cases e : cs.all segOk
    · rfl
    · rw [List.all_eq_true.1 e s (List.mem_of_getElem? h)] at hs; cases hs
  unfold planOk
  rw [this, Bool.false_and, Bool.and_false]
theorem planOk_long {cs : List (Int × List Int)} (k : Nat) (h : 60 < (planL (cs.take k)).length) : planOk cs = false := by
  have := planL_take cs k
  unfold planOk
  rw [decide_eq_false (show ¬ (planL cs).length ≤ 60 by omega), Bool.and_false, Bool.and_false]
/-- The segments up to k can stand in a plan. -/
def okTo (cs : List (Int × List Int)) (k : Nat) : Prop := ∀ j s, j < k → cs[j]? = some s → segOk s = true
theorem okTo_all {cs : List (Int × List Int)} (h : okTo cs cs.length) : cs.all segOk = true := List.all_eq_true.2 fun s hs => by
  obtain ⟨j, hj⟩ := List.getElem?_of_mem hs
  exact h j s (List.getElem?_eq_some_iff.1 hj).1 hj
theorem okTo_next {cs : List (Int × List Int)} {k : Nat} {s : Int × List Int} (h : okTo cs k) (hk : cs[k]? = some s) (hs : segOk s = true) : okTo cs (k + 1) := fun j t hj ht => by
  by_cases e : j = k
  · subst e
    rw [hk] at ht
    injection ht with ht
    subst ht; exact hs
  · exact h j t (by omega) ht
theorem planOk_all {cs : List (Int × List Int)} (h : okTo cs cs.length) (h60 : (planL cs).length ≤ 60) : planOk cs = decide (1 ≤ cs.length) := by
  unfold planOk
  rw [okTo_all h, decide_eq_true h60]
  cases decide (1 ≤ cs.length) <;> rfl
theorem segOk_parts {s : Int × List Int} (h : segOk s = true) : polyOk s.2 = true ∧ 1 ≤ s.1 ∧ s.1 ≤ 60 ∧ tableOk (vals s.2 0 s.1.toNat) = true := by
  simp only [segOk, Bool.and_eq_true] at h
  have ⟨a, b⟩ := of_decide_eq_true h.2.1
  exact ⟨h.1, a, b, h.2.2⟩
theorem segOk_is (c : Int) (zs : List Int) : segOk (c, zs) = (valuesB zs 0 c && tableOk (valuesA zs 0 c)) := by
  unfold segOk valuesB valuesA
  show (polyOk zs && (decide (1 ≤ c ∧ c ≤ 60) && tableOk (vals zs 0 c.toNat))) = _
  cases hp : polyOk zs
  · rfl
  · rw [show inB 200 0 = true from rfl]
    cases hv : valsOk 0 c
    · have h := of_decide_eq_false hv
      rw [decide_eq_false (show ¬ (1 ≤ c ∧ c ≤ 60) by omega)]; rfl
    · have h := of_decide_eq_true hv
      rw [Bool.and_self, Bool.and_self, if_pos rfl, Bool.true_and, Bool.true_and]
      by_cases h1 : 1 ≤ c
      · rw [decide_eq_true (show 1 ≤ c ∧ c ≤ 60 by omega), Bool.true_and]
      · have e : c.toNat = 0 := by omega
        rw [decide_eq_false (show ¬ (1 ≤ c ∧ c ≤ 60) by omega), e]; rfl
theorem segV_is (c : Int) (zs : List Int) (h : segOk (c, zs) = true) : valuesA zs 0 c = segV (c, zs) ∧ valuesB zs 0 c = true ∧ tableOk (valuesA zs 0 c) = true := by
  have h' := h
  rw [segOk_is, Bool.and_eq_true] at h'
  exact ⟨by unfold valuesA; rw [if_pos (show (polyOk zs && inB 200 0 && valsOk 0 c) = true from h'.1)]; rfl, h'.1, h'.2⟩
def segVA (s : Int × List Int) : List Int := if segOk s then segV s else []
set_option maxHeartbeats 800000 in
theorem segValues_any (c : Int) (v : Value) (zs : List Int) (w : World) (lo hi : Nat) (hv : Lies w lo hi v zs) : Calls Try.prog 34 #[.agg #[.int .i64 c, v]] w (NewRowB (segVA (c, zs)) (segOk (c, zs)) w) := by
  have HL := hidH hv
  have HVA := hidH (fun W (hl : Lies W lo hi v zs) => values_any v zs 0 c W lo hi hl)
  have HVL := hidH (valuesA_len zs 0 c)
  obtain ⟨a, cap, rfl⟩ := hv.some
  clear hv
  have BB := hidH (bMore (Below.refl w.heap.size w) (.cells #[.int .i64 c, .slice a zs.length cap] 43))
  cases hok : segOk (c, zs)
  · have HF := hidH (show (valuesB zs 0 c && tableOk (valuesA zs 0 c)) = false by rw [← segOk_is]; exact hok)
    have HE := hidH (show segVA (c, zs) = [] by rw [segVA, hok]; rfl)
    clear hok
    go_enter Try.func34, Try.ntmps34
    go_wp2_with fail
    refine (HVA.out _ (HL.out.below BB.out)).mono ?_; rintro e w1 ⟨u, rfl, hr, hb⟩
    have B1 := hidH (bThen BB.out hb)
    have R1 := hidH hr
    clear hr hb
    obtain ⟨ua, uc, rfl⟩ := R1.out.some
    cases hvb : valuesB zs 0 c
    · clear hvb
      go_wp2_with fail
      go_ret2
      rw [HE.out]
      exact ⟨_, rfl, Row.nil _ _ _ _ _ (Nat.zero_le _) (fun _ => rfl), B1.out⟩
    · have HT := hidH (show tableOk (valuesA zs 0 c) = false by have h := HF.out; rw [hvb, Bool.true_and] at h; exact h)
      clear hvb
      go_wp2_with fail
      refine (tableValid_any _ (valuesA zs 0 c) _ _ _ R1.out.lies).mono ?_; rintro e w2 ⟨rfl, hb⟩
      rw [HT.out]
      have B2 := hidH (bThen B1.out hb)
      clear hb
      go_wp2_with fail
      go_ret2
      rw [HE.out]
      exact ⟨_, rfl, Row.nil _ _ _ _ _ (Nat.zero_le _) (fun _ => rfl), B2.out⟩
  · have ⟨e1, e2, e3⟩ := segV_is c zs hok
    have HT := hidH e3
    have HVB := hidH e2
    have HE := hidH (show segVA (c, zs) = valuesA zs 0 c by rw [segVA, hok, if_pos rfl, e1])
    clear hok e1 e2 e3
    go_enter Try.func34, Try.ntmps34
    go_wp2_with fail
    refine (HVA.out _ (HL.out.below BB.out)).mono ?_; rintro e w1 ⟨u, rfl, hr, hb⟩
    rw [HVB.out]
    have B1 := hidH (bThen BB.out hb)
    have R1 := hidH (hr.mono BB.out.size (Nat.le_refl _))
    clear hr hb
    obtain ⟨ua, uc, rfl⟩ := R1.out.some
    go_wp2_with fail
    refine (tableValid_any _ (valuesA zs 0 c) _ _ _ R1.out.lies).mono ?_; rintro e w2 ⟨rfl, hb⟩
    rw [HT.out]
    have B2 := hidH (bThen B1.out hb)
    have R2 := hidH ((R1.out.below hb).mono (Nat.le_refl _) hb.size)
    clear hb
    go_wp2_with fail
    go_ret2
    rw [HE.out]
    exact ⟨_, rfl, R2.out, B2.out⟩
set_option maxHeartbeats 1600000 in
theorem planValues_any (v : Value) (cs : List (Int × List Int)) (w : World) (h1 : Nat) (hv : LiesSg w h1 v cs) (hn : cs.length ≤ 1048576) : Calls Try.prog 16 #[v] w (NewRowB (planA cs) (planOk cs) w) := by
  have HV := hidH hv
  obtain ⟨a, cap, rfl, hlc, hcm⟩ := hv.len
  unfold maxLen at hcm
  clear hv
  obtain ⟨i0, hi0, hz0, hz1, hz2⟩ := info_parts infoInt
  go_enter Try.func16, Try.ntmps16
  go_wp2_with fail
  go_loopw [4, 11] (fun o i wr => ∃ (k : Nat) (ov : Value), k ≤ cs.length ∧ i = .int .i64 k ∧ ov = o ∧ okTo cs k ∧ (planL (cs.take k)).length ≤ 60 ∧ wr.ownsRow w.heap.size 3 1 ov (planL (cs.take k)).length (ints (planL (cs.take k))) ∧ Below w.heap.size w wr) (fun _ i _ => cs.length - (intOf i).toNat)
  case atStart => exact ⟨0, _, Nat.zero_le _, rfl, rfl, (fun _ _ h => absurd h (Nat.not_lt_zero _)), by simp [planL], ⟨rfl, .inl ⟨rfl, rfl⟩⟩, Below.refl _ _⟩
  case round =>
    obtain ⟨k, ov, hk, rfl, rfl, hok, h60, hown, hb⟩ := hrel
    have HOK := hidH hok
    have HW := hidH hown
    have HB := hidH hb
    clear hok hown hb
    by_cases hlt : k < cs.length
    · obtain ⟨b, off, cc1, e, _, _, _, hcl⟩ := HV.out.addr (by omega)
      injection e with e1 e2 e3
      subst e1; subst e3
      obtain ⟨x, hx⟩ : ∃ x, cs[k]? = some x := ⟨cs[k], List.getElem?_eq_getElem hlt⟩
      obtain ⟨c, zs⟩ := x
      obtain ⟨p, q0, q1, q2⟩ := hcl k c zs hx
      have c0 : wr.cell? ⟨b, off + k * 2, none⟩ = some (.int .i64 c) := by rw [HB.out.cell (p := ⟨b, off + k * 2, none⟩) (cell_blk _ _ _ q0)]; exact q0
      have c1 : wr.cell? ⟨b, off + k * 2 + 1, none⟩ = some p := by rw [HB.out.cell (p := ⟨b, off + k * 2 + 1, none⟩) (cell_blk _ _ _ q1)]; exact q1
      have HP := hidH (q2.below HB.out)
      have HX := hidH hx
      obtain ⟨pa0, pc0, rfl⟩ := q2.some
      clear hcl q0 q1 q2 hx
      have HSN := hidH (planL_snoc cs k (c, zs) HX.out)
      have HSV := hidH (segV_length (c, zs))
      generalize hpl : planL (cs.take k) = pl at *
      have HPL := hidH hpl
      clear hpl
      go_wp2_with fail
      have BX := bMore (Below.refl wr.heap.size wr) (.cells #[.int .i64 c, .slice pa0 zs.length pc0] 43)
      refine (segValues_any c _ zs _ _ _ (HP.out.below BX)).mono ?_; rintro e w5 ⟨u, rfl, hr, hb⟩
      have R5 := hidH hr
      have B5 := hidH (bThen HB.out (bThen BX hb))
      have W5 := hidH (owns_below HW.out (bThen BX hb))
      clear BX
      have hs5 := B5.out.size
      clear hr hb c0 c1
      cases hsg : segOk (c, zs)
      · have HF := hidH (planOk_bad HX.out hsg)
        obtain ⟨ua, uc, rfl⟩ := R5.out.some
        clear hsg
        go_wp2_with fail
        go_ret2
        rw [planA, HF.out]
        exact ⟨_, rfl, Row.nil _ _ _ _ _ (Nat.zero_le _) (fun _ => rfl), B5.out⟩
      · rw [segVA, hsg, if_pos rfl] at R5
        have ⟨_, d1, d2, _⟩ := segOk_parts hsg
        have hvl : 1 ≤ (segV (c, zs)).length ∧ (segV (c, zs)).length ≤ 60 := by rw [HSV.out]; show 1 ≤ c.toNat ∧ c.toNat ≤ 60; have d1' : (1 : Int) ≤ c := d1; have d2' : c ≤ 60 := d2; omega
        have HON := hidH (okTo_next HOK.out HX.out hsg)
        clear hsg d1 d2 HSV
        generalize hvs : segV (c, zs) = vs at *
        have HVS := hidH hvs
        clear hvs
        obtain ⟨hv1, hv60⟩ := hvl
        obtain ⟨pb, po, pc, rfl, hpl1, hpm1, _, _, _, hpcell⟩ := R5.out.lies.addr (by omega)
        unfold maxLen at hpm1
        have HC := hidH (cells_map hpcell)
        have HOC := hidH (oneCells vs)
        clear hpcell
        obtain ⟨oa, on, oc, hof⟩ : ∃ a2 n2 c2, ov = .slice a2 n2 c2 := by
          obtain ⟨a2, c2, e⟩ := (row_of_owns W5.out).1.some
          exact ⟨a2, _, c2, e⟩
        have hon : on = pl.length := by
          obtain ⟨a2, c2, e⟩ := (row_of_owns W5.out).1.some
          rw [hof] at e
          injection e
        subst hon
        subst hof
        by_cases hlong : 60 < pl.length + vs.length
        · have HF := hidH (planOk_long (cs := cs) (k + 1) (by rw [HSN.out, List.length_append]; exact hlong))
          go_wp2_with fail
          go_ret2
          rw [planA, HF.out]
          exact ⟨_, rfl, Row.nil _ _ _ _ _ (Nat.zero_le _) (fun _ => rfl), B5.out⟩
        · go_wp2_with (at_builtin; refine wpList_append_own _ rfl _ _ 30 rfl w.heap.size 3 i0 (.int .i64 0) 1 8 Try.underlying30 hi0 hz0 hz1 hz2 rfl (by decide) _ _ _ rfl W5.out ⟨pb, po, none⟩ vs.length pc (ints vs) rfl ?qc1 ?qc2 HOC.out ?qc4 ?qc5 ?qc6 ?_)
          case qc1 => rw [ints_length, Nat.mul_one]
          case qc2 => exact HC.out _ (Below.refl _ _)
          case qc4 => unfold maxLen; omega
          case qc5 => omega
          case qc6 => exact hs5
          intro v' w7 hown1 hgrow _
          have W7 := hidH hown1
          have B7 := hidH ((B5.out).grown hgrow hs5 fun g hg => (W5.out.lt g hg).1)
          clear hown1 hgrow
          go_wp2_with fail
          go_roundw
          case rel =>
            refine ⟨k + 1, v', by omega, by go_num, rfl, HON.out, by rw [HSN.out, List.length_append]; omega, ?_, B7.out⟩
            rw [HSN.out, ints_append, List.length_append]
            exact W7.out
          case measure => simp [intOf]; omega
    · obtain rfl : k = cs.length := by omega
      have HE := hidH (planOk_all HOK.out (by rw [List.take_length] at h60; exact h60))
      have h := HW.out
      rw [List.take_length] at h
      have HRW := hidH (row_of_owns h).1
      obtain ⟨oa, oc, rfl⟩ := HRW.out.some
      clear h HW
      by_cases h1 : 1 ≤ cs.length
      · have HE2 := hidH (show planOk cs = true by rw [HE.out]; exact decide_eq_true h1)
        have hd : decide (0 < cs.length) = true := decide_eq_true (by omega)
        go_wp2_with fail
        go_ret2
        rw [planA, HE2.out, if_pos rfl]
        exact ⟨_, rfl, HRW.out, HB.out⟩
      · have HE2 := hidH (show planOk cs = false by rw [HE.out]; exact decide_eq_false h1)
        have hcz : cs.length = 0 := by omega
        have HPZ := hidH (show planL cs = [] by rw [List.eq_nil_of_length_eq_zero hcz]; rfl)
        have hd : decide (0 < cs.length) = false := decide_eq_false (by omega)
        clear hcz
        go_wp2_with fail
        go_ret2
        rw [planA, HE2.out]
        have h := HRW.out
        rw [HPZ.out] at h
        exact ⟨_, rfl, by rw [HPZ.out]; exact h, HB.out⟩
end Go.Proofs.Yteacpfejjphabaa
