/-
  PlanValues: the program, at every argument. No conditions but that slices fit in memory.
  PlanValid: the model, at every argument. No conditions but that slices fit in memory.
  PlanValid and PlanLength, and the model's values of a plan. No conditions but that slices fit in memory.
  PlanDegree and PlanCost: the program and the model, at every argument. No conditions but that slices fit in memory.
-/
import Derived.Test.YtgnoclnenhmakaaPlanSg
import Derived.Test.YtgnoclnenhmakaaPolyFe
import Derived.Test.YtgnoclnenhmakaaBox
import Derived.Test.YtgnoclnenhmakaaIn
import Derived.Test.YtgnoclnenhmakaaHeld
import Derived.Deep.AppendLies
import Derived.Test.YtgnoclnenhmakaaPolyD
namespace Go.Proofs.Ytgnoclnenhmakaa
set_option maxRecDepth 4000
open Go.RowKit
/-- A segment that can stand in a plan. -/
def segOk (s : Int × List Int) : Bool := polyOk s.2 && (decide ((1 : Int) ≤ s.1 ∧ s.1 ≤ 60) && tableOk (vals s.2 0 s.1.toNat))
def segV (s : Int × List Int) : List Int := vals s.2 0 s.1.toNat
/-- The values of a plan. -/
def planL (cs : List (Int × List Int)) : List Int := cs.flatMap segV
def planOk (cs : List (Int × List Int)) : Bool := decide (1 ≤ cs.length) && (cs.all segOk && decide ((planL cs).length ≤ 60))
def planA (cs : List (Int × List Int)) : List Int := if planOk cs then planL cs else []
theorem planA_len (cs : List (Int × List Int)) : (planA cs).length ≤ 1048576 := by
  unfold planA
  split
  · rename_i h
    simp only [planOk, Bool.and_eq_true, decide_eq_true_eq] at h
    omega
  · simp
theorem segV_length (s : Int × List Int) : (segV s).length = s.1.toNat := vals_length _ _ _
theorem planL_snoc (cs : List (Int × List Int)) (k : Nat) (s : Int × List Int) (h : cs[k]? = some s) : planL (cs.take (k + 1)) = planL (cs.take k) ++ segV s := by
  unfold planL
  rw [List.take_add_one, h, List.flatMap_append]
  simp
theorem planL_take (cs : List (Int × List Int)) (k : Nat) : (planL (cs.take k)).length ≤ (planL cs).length := by
  have h : planL cs = planL (cs.take k) ++ planL (cs.drop k) := by
    unfold planL
    rw [← List.flatMap_append, List.take_append_drop]
  rw [h, List.length_append]
  omega
theorem planOk_bad {cs : List (Int × List Int)} {k : Nat} {s : Int × List Int} (h : cs[k]? = some s) (hs : segOk s = false) : planOk cs = false := by
  have : cs.all segOk = false := by
    cases e : cs.all segOk
    · rfl
    · rw [List.all_eq_true.1 e s (List.mem_of_getElem? h)] at hs; cases hs
  unfold planOk
  rw [this, Bool.false_and, Bool.and_false]
theorem planOk_long {cs : List (Int × List Int)} (k : Nat) (h : 60 < (planL (cs.take k)).length) : planOk cs = false := by
  have := planL_take cs k
  unfold planOk
  rw [decide_eq_false (show ¬ (planL cs).length ≤ 60 by omega), Bool.and_false, Bool.and_false]
/-- The segments up to k can stand in a plan. -/
def okTo (cs : List (Int × List Int)) (k : Nat) : Prop := ∀ j s, j < k → cs[j]? = some s → segOk s = true
theorem okTo_all {cs : List (Int × List Int)} (h : okTo cs cs.length) : cs.all segOk = true := List.all_eq_true.2 fun s hs => by
  obtain ⟨j, hj⟩ := List.getElem?_of_mem hs
  exact h j s (List.getElem?_eq_some_iff.1 hj).1 hj
theorem okTo_next {cs : List (Int × List Int)} {k : Nat} {s : Int × List Int} (h : okTo cs k) (hk : cs[k]? = some s) (hs : segOk s = true) : okTo cs (k + 1) := fun j t hj ht => by
  by_cases e : j = k
  · subst e
    rw [hk] at ht
    injection ht with ht
    subst ht; exact hs
  · exact h j t (by omega) ht
theorem planOk_all {cs : List (Int × List Int)} (h : okTo cs cs.length) (h60 : (planL cs).length ≤ 60) : planOk cs = decide (1 ≤ cs.length) := by
  unfold planOk
  rw [okTo_all h, decide_eq_true h60]
  cases decide (1 ≤ cs.length) <;> rfl
theorem segOk_parts {s : Int × List Int} (h : segOk s = true) : polyOk s.2 = true ∧ 1 ≤ s.1 ∧ s.1 ≤ 60 ∧ tableOk (vals s.2 0 s.1.toNat) = true := by
  simp only [segOk, Bool.and_eq_true] at h
  have ⟨a, b⟩ := of_decide_eq_true h.2.1
  exact ⟨h.1, a, b, h.2.2⟩
theorem segOk_is (c : Int) (zs : List Int) : segOk (c, zs) = (valuesB zs 0 c && tableOk (valuesA zs 0 c)) := by
  unfold segOk valuesB valuesA
  show (polyOk zs && (decide (1 ≤ c ∧ c ≤ 60) && tableOk (vals zs 0 c.toNat))) = _
  cases hp : polyOk zs
  · rfl
  · rw [show inB 200 0 = true from rfl]
    cases hv : valsOk 0 c
    · have h := of_decide_eq_false hv
      rw [decide_eq_false (show ¬ (1 ≤ c ∧ c ≤ 60) by omega)]; rfl
    · have h := of_decide_eq_true hv
      rw [Bool.and_self, Bool.and_self, if_pos rfl, Bool.true_and, Bool.true_and]
      by_cases h1 : 1 ≤ c
      · rw [decide_eq_true (show 1 ≤ c ∧ c ≤ 60 by omega), Bool.true_and]
      · have e : c.toNat = 0 := by omega
        rw [decide_eq_false (show ¬ (1 ≤ c ∧ c ≤ 60) by omega), e]; rfl
theorem segV_is (c : Int) (zs : List Int) (h : segOk (c, zs) = true) : valuesA zs 0 c = segV (c, zs) ∧ valuesB zs 0 c = true ∧ tableOk (valuesA zs 0 c) = true := by
  have h' := h
  rw [segOk_is, Bool.and_eq_true] at h'
  exact ⟨by unfold valuesA; rw [if_pos (show (polyOk zs && inB 200 0 && valsOk 0 c) = true from h'.1)]; rfl, h'.1, h'.2⟩
def segVA (s : Int × List Int) : List Int := if segOk s then segV s else []
set_option maxHeartbeats 800000 in
theorem segValues_any (c : Int) (v : Value) (zs : List Int) (w : World) (lo hi : Nat) (hv : Lies w lo hi v zs) : Calls Try.prog 46 #[.agg #[.int .i64 c, v]] w (NewRowB (segVA (c, zs)) (segOk (c, zs)) w) := by
  have HL := hidH hv
  have HVA := hidH (fun W (hl : Lies W lo hi v zs) => values_any v zs 0 c W lo hi hl)
  have HVL := hidH (valuesA_len zs 0 c)
  obtain ⟨a, cap, rfl⟩ := hv.some
  clear hv
  have BB := hidH (bMore (Below.refl w.heap.size w) (.cells #[.int .i64 c, .slice a zs.length cap] 39))
  cases hok : segOk (c, zs)
  · have HF := hidH (show (valuesB zs 0 c && tableOk (valuesA zs 0 c)) = false by rw [← segOk_is]; exact hok)
    have HE := hidH (show segVA (c, zs) = [] by rw [segVA, hok]; rfl)
    clear hok
    go_enter Try.func46, Try.ntmps46
    go_wp2_with fail
    refine (HVA.out _ (HL.out.below BB.out)).mono ?_; rintro e w1 ⟨u, rfl, hr, hb⟩
    have B1 := hidH (bThen BB.out hb)
    have R1 := hidH hr
    clear hr hb
    obtain ⟨ua, uc, rfl⟩ := R1.out.some
    cases hvb : valuesB zs 0 c
    · clear hvb
      go_wp2_with fail
      go_ret2
      rw [HE.out]
      exact ⟨_, rfl, Row.nil _ _ _ _ _ (Nat.zero_le _) (fun _ => rfl), B1.out⟩
    · have HT := hidH (show tableOk (valuesA zs 0 c) = false by have h := HF.out; rw [hvb, Bool.true_and] at h; exact h)
      clear hvb
      go_wp2_with fail
      refine (tableValid_any _ (valuesA zs 0 c) _ _ _ R1.out.lies).mono ?_; rintro e w2 ⟨rfl, hb⟩
      rw [HT.out]
      have B2 := hidH (bThen B1.out hb)
      clear hb
      go_wp2_with fail
      go_ret2
      rw [HE.out]
      exact ⟨_, rfl, Row.nil _ _ _ _ _ (Nat.zero_le _) (fun _ => rfl), B2.out⟩
  · have ⟨e1, e2, e3⟩ := segV_is c zs hok
    have HT := hidH e3
    have HVB := hidH e2
    have HE := hidH (show segVA (c, zs) = valuesA zs 0 c by rw [segVA, hok, if_pos rfl, e1])
    clear hok e1 e2 e3
    go_enter Try.func46, Try.ntmps46
    go_wp2_with fail
    refine (HVA.out _ (HL.out.below BB.out)).mono ?_; rintro e w1 ⟨u, rfl, hr, hb⟩
    rw [HVB.out]
    have B1 := hidH (bThen BB.out hb)
    have R1 := hidH (hr.mono BB.out.size (Nat.le_refl _))
    clear hr hb
    obtain ⟨ua, uc, rfl⟩ := R1.out.some
    go_wp2_with fail
    refine (tableValid_any _ (valuesA zs 0 c) _ _ _ R1.out.lies).mono ?_; rintro e w2 ⟨rfl, hb⟩
    rw [HT.out]
    have B2 := hidH (bThen B1.out hb)
    have R2 := hidH ((R1.out.below hb).mono (Nat.le_refl _) hb.size)
    clear hb
    go_wp2_with fail
    go_ret2
    rw [HE.out]
    exact ⟨_, rfl, R2.out, B2.out⟩
set_option maxHeartbeats 1600000 in
theorem planValues_any (v : Value) (cs : List (Int × List Int)) (w : World) (h1 : Nat) (hv : LiesSg w h1 v cs) (hn : cs.length ≤ 1048576) : Calls Try.prog 15 #[v] w (NewRowB (planA cs) (planOk cs) w) := by
  have HV := hidH hv
  obtain ⟨a, cap, rfl, hlc, hcm⟩ := hv.len
  unfold maxLen at hcm
  clear hv
  obtain ⟨i0, hi0, hz0, hz1, hz2⟩ := info_parts infoInt
  go_enter Try.func15, Try.ntmps15
  go_wp2_with fail
  go_loopw [4, 11] (fun o i wr => ∃ (k : Nat) (ov : Value), k ≤ cs.length ∧ i = .int .i64 k ∧ ov = o ∧ okTo cs k ∧ (planL (cs.take k)).length ≤ 60 ∧ wr.ownsRow w.heap.size 3 1 ov (planL (cs.take k)).length (ints (planL (cs.take k))) ∧ Below w.heap.size w wr) (fun _ i _ => cs.length - (intOf i).toNat)
  case atStart => exact ⟨0, _, Nat.zero_le _, rfl, rfl, (fun _ _ h => absurd h (Nat.not_lt_zero _)), by simp [planL], ⟨rfl, .inl ⟨rfl, rfl⟩⟩, Below.refl _ _⟩
  case round =>
    obtain ⟨k, ov, hk, rfl, rfl, hok, h60, hown, hb⟩ := hrel
    have HOK := hidH hok
    have HW := hidH hown
    have HB := hidH hb
    clear hok hown hb
    by_cases hlt : k < cs.length
    · obtain ⟨b, off, cc1, e, _, _, _, hcl⟩ := HV.out.addr (by omega)
      injection e with e1 e2 e3
      subst e1; subst e3
      obtain ⟨x, hx⟩ : ∃ x, cs[k]? = some x := ⟨cs[k], List.getElem?_eq_getElem hlt⟩
      obtain ⟨c, zs⟩ := x
      obtain ⟨p, q0, q1, q2⟩ := hcl k c zs hx
      have c0 : wr.cell? ⟨b, off + k * 2, none⟩ = some (.int .i64 c) := by rw [HB.out.cell (p := ⟨b, off + k * 2, none⟩) (cell_blk _ _ _ q0)]; exact q0
      have c1 : wr.cell? ⟨b, off + k * 2 + 1, none⟩ = some p := by rw [HB.out.cell (p := ⟨b, off + k * 2 + 1, none⟩) (cell_blk _ _ _ q1)]; exact q1
      have HP := hidH (q2.below HB.out)
      have HX := hidH hx
      obtain ⟨pa0, pc0, rfl⟩ := q2.some
      clear hcl q0 q1 q2 hx
      have HSN := hidH (planL_snoc cs k (c, zs) HX.out)
      have HSV := hidH (segV_length (c, zs))
      generalize hpl : planL (cs.take k) = pl at *
      have HPL := hidH hpl
      clear hpl
      go_wp2_with fail
      have BX := bMore (Below.refl wr.heap.size wr) (.cells #[.int .i64 c, .slice pa0 zs.length pc0] 39)
      refine (segValues_any c _ zs _ _ _ (HP.out.below BX)).mono ?_; rintro e w5 ⟨u, rfl, hr, hb⟩
      have R5 := hidH hr
      have B5 := hidH (bThen HB.out (bThen BX hb))
      have W5 := hidH (owns_below HW.out (bThen BX hb))
      clear BX
      have hs5 := B5.out.size
      clear hr hb c0 c1
      cases hsg : segOk (c, zs)
      · have HF := hidH (planOk_bad HX.out hsg)
        obtain ⟨ua, uc, rfl⟩ := R5.out.some
        clear hsg
        go_wp2_with fail
        go_ret2
        rw [planA, HF.out]
        exact ⟨_, rfl, Row.nil _ _ _ _ _ (Nat.zero_le _) (fun _ => rfl), B5.out⟩
      · rw [segVA, hsg, if_pos rfl] at R5
        have ⟨_, d1, d2, _⟩ := segOk_parts hsg
        have hvl : 1 ≤ (segV (c, zs)).length ∧ (segV (c, zs)).length ≤ 60 := by rw [HSV.out]; show 1 ≤ c.toNat ∧ c.toNat ≤ 60; have d1' : (1 : Int) ≤ c := d1; have d2' : c ≤ 60 := d2; omega
        have HON := hidH (okTo_next HOK.out HX.out hsg)
        clear hsg d1 d2 HSV
        generalize hvs : segV (c, zs) = vs at *
        have HVS := hidH hvs
        clear hvs
        obtain ⟨hv1, hv60⟩ := hvl
        obtain ⟨pb, po, pc, rfl, hpl1, hpm1, _, _, _, hpcell⟩ := R5.out.lies.addr (by omega)
        unfold maxLen at hpm1
        have HC := hidH (cells_map hpcell)
        have HOC := hidH (oneCells vs)
        clear hpcell
        obtain ⟨oa, on, oc, hof⟩ : ∃ a2 n2 c2, ov = .slice a2 n2 c2 := by
          obtain ⟨a2, c2, e⟩ := (row_of_owns W5.out).1.some
          exact ⟨a2, _, c2, e⟩
        have hon : on = pl.length := by
          obtain ⟨a2, c2, e⟩ := (row_of_owns W5.out).1.some
          rw [hof] at e
          injection e
        subst hon
        subst hof
        by_cases hlong : 60 < pl.length + vs.length
        · have HF := hidH (planOk_long (cs := cs) (k + 1) (by rw [HSN.out, List.length_append]; exact hlong))
          go_wp2_with fail
          go_ret2
          rw [planA, HF.out]
          exact ⟨_, rfl, Row.nil _ _ _ _ _ (Nat.zero_le _) (fun _ => rfl), B5.out⟩
        · go_wp2_with (at_builtin; refine wpList_append_own _ rfl _ _ 28 rfl w.heap.size 3 i0 (.int .i64 0) 1 8 Try.underlying28 hi0 hz0 hz1 hz2 rfl (by decide) _ _ _ rfl W5.out ⟨pb, po, none⟩ vs.length pc (ints vs) rfl ?qc1 ?qc2 HOC.out ?qc4 ?qc5 ?qc6 ?_)
          case qc1 => rw [ints_length, Nat.mul_one]
          case qc2 => exact HC.out _ (Below.refl _ _)
          case qc4 => unfold maxLen; omega
          case qc5 => omega
          case qc6 => exact hs5
          intro v' w7 hown1 hgrow _
          have W7 := hidH hown1
          have B7 := hidH ((B5.out).grown hgrow hs5 fun g hg => (W5.out.lt g hg).1)
          clear hown1 hgrow
          go_wp2_with fail
          go_roundw
          case rel =>
            refine ⟨k + 1, v', by omega, by go_num, rfl, HON.out, by rw [HSN.out, List.length_append]; omega, ?_, B7.out⟩
            rw [HSN.out, ints_append, List.length_append]
            exact W7.out
          case measure => simp [intOf]; omega
    · obtain rfl : k = cs.length := by omega
      have HE := hidH (planOk_all HOK.out (by rw [List.take_length] at h60; exact h60))
      have h := HW.out
      rw [List.take_length] at h
      have HRW := hidH (row_of_owns h).1
      obtain ⟨oa, oc, rfl⟩ := HRW.out.some
      clear h HW
      by_cases h1 : 1 ≤ cs.length
      · have HE2 := hidH (show planOk cs = true by rw [HE.out]; exact decide_eq_true h1)
        have hd : decide (0 < cs.length) = true := decide_eq_true (by omega)
        go_wp2_with fail
        go_ret2
        rw [planA, HE2.out, if_pos rfl]
        exact ⟨_, rfl, HRW.out, HB.out⟩
      · have HE2 := hidH (show planOk cs = false by rw [HE.out]; exact decide_eq_false h1)
        have hcz : cs.length = 0 := by omega
        have HPZ := hidH (show planL cs = [] by rw [List.eq_nil_of_length_eq_zero hcz]; rfl)
        have hd : decide (0 < cs.length) = false := decide_eq_false (by omega)
        clear hcz
        go_wp2_with fail
        go_ret2
        rw [planA, HE2.out]
        have h := HRW.out
        rw [HPZ.out] at h
        exact ⟨_, rfl, by rw [HPZ.out]; exact h, HB.out⟩
end Go.Proofs.Ytgnoclnenhmakaa
namespace Go.Proofs.Ytgnoclnenhmakaa
set_option maxRecDepth 4000
open Go.RowKit
def cntS (s : Int × List Int) : Bool := decide ((1 : Int) ≤ s.1 ∧ s.1 ≤ 60)
def totN (cs : List (Int × List Int)) : Nat := (cs.map fun s => s.1.toNat).sum
/-- What the model's length of a plan answers. -/
def lenM (cs : List (Int × List Int)) : Int := if cs.all cntS then (totN cs : Int) else -1
theorem totN_snoc (cs : List (Int × List Int)) (k : Nat) (s : Int × List Int) (h : cs[k]? = some s) : totN (cs.take (k + 1)) = totN (cs.take k) + s.1.toNat := by
  unfold totN
  rw [List.take_add_one, h, List.map_append, List.sum_append]
  simp
theorem planL_tot (cs : List (Int × List Int)) : (planL cs).length = totN cs := by
  unfold planL totN
  rw [List.length_flatMap]
  congr 1
  apply List.map_congr_left
  intro s _
  exact segV_length s
theorem totN_ge (cs : List (Int × List Int)) (h : cs.all cntS = true) : cs.length ≤ totN cs := by
  induction cs with
  | nil => simp
  | cons s cs ih =>
    rw [List.all_cons, Bool.and_eq_true] at h
    have h1 := of_decide_eq_true h.1
    have := ih h.2
    simp only [totN, List.map_cons, List.sum_cons, List.length_cons] at this ⊢
    omega
theorem segOk_cnt {cs : List (Int × List Int)} (h : cs.all segOk = true) : cs.all cntS = true := List.all_eq_true.2 fun s hs => by
  have ⟨_, a, b, _⟩ := segOk_parts (List.all_eq_true.1 h s hs)
  exact decide_eq_true ⟨a, b⟩
theorem planOk_parts {cs : List (Int × List Int)} (h : planOk cs = true) : 1 ≤ cs.length ∧ cs.length ≤ 60 ∧ cs.all segOk = true ∧ cs.all cntS = true ∧ totN cs ≤ 60 := by
  simp only [planOk, Bool.and_eq_true, decide_eq_true_eq] at h
  obtain ⟨h1, h2, h3⟩ := h
  have hc := segOk_cnt h2
  have := totN_ge cs hc
  rw [planL_tot] at h3
  exact ⟨h1, by omega, h2, hc, h3⟩
theorem planOk_many {cs : List (Int × List Int)} (h : 60 < cs.length) : planOk cs = false := by
  cases e : planOk cs
  · rfl
  · have := (planOk_parts e).2.1; omega
theorem planOk_tot {cs : List (Int × List Int)} (h : ¬ (1 ≤ lenM cs ∧ lenM cs ≤ 60)) : planOk cs = false := by
  cases e : planOk cs
  · rfl
  · obtain ⟨h1, _, _, hc, h2⟩ := planOk_parts e
    have := totN_ge cs hc
    exact absurd (by rw [lenM, hc, if_pos rfl]; omega) h
theorem planOk_of {cs : List (Int × List Int)} (h : 1 ≤ lenM cs ∧ lenM cs ≤ 60) (hok : okTo cs cs.length) : planOk cs = true := by
  have hs := okTo_all hok
  have hc := segOk_cnt hs
  rw [lenM, hc, if_pos rfl] at h
  have hl := planL_tot cs
  have : 1 ≤ cs.length := by
    rcases Nat.eq_zero_or_pos cs.length with e | e
    · rw [List.eq_nil_of_length_eq_zero e] at h; simp [totN] at h
    · exact e
  unfold planOk
  rw [hs, decide_eq_true this, decide_eq_true (show (planL cs).length ≤ 60 by omega)]; rfl
theorem lenM_cnt {cs : List (Int × List Int)} (h : 1 ≤ lenM cs) : cs.all cntS = true := by
  cases e : cs.all cntS
  · rw [lenM, e] at h; simp at h
  · rfl
def cntTo (cs : List (Int × List Int)) (k : Nat) : Prop := ∀ j s, j < k → cs[j]? = some s → cntS s = true
theorem cntTo_all {cs : List (Int × List Int)} (h : cntTo cs cs.length) : cs.all cntS = true := List.all_eq_true.2 fun s hs => by
  obtain ⟨j, hj⟩ := List.getElem?_of_mem hs
  exact h j s (List.getElem?_eq_some_iff.1 hj).1 hj
theorem cntTo_next {cs : List (Int × List Int)} {k : Nat} {s : Int × List Int} (h : cntTo cs k) (hk : cs[k]? = some s) (hs : cntS s = true) : cntTo cs (k + 1) := fun j t hj ht => by
  by_cases e : j = k
  · subst e
    rw [hk] at ht
    injection ht with ht
    subst ht; exact hs
  · exact h j t (by omega) ht
theorem lenM_bad {cs : List (Int × List Int)} {k : Nat} {s : Int × List Int} (h : cs[k]? = some s) (hs : cntS s = false) : lenM cs = -1 := by
  have : cs.all cntS = false := by
    cases e : cs.all cntS
    · rfl
    · rw [List.all_eq_true.1 e s (List.mem_of_getElem? h)] at hs; cases hs
  rw [lenM, this]; rfl
set_option maxHeartbeats 800000 in
theorem sPlanLen_any (v : Value) (cs : List (Int × List Int)) (w : World) (h1 : Nat) (hv : LiesSg w h1 v cs) (hn : cs.length ≤ 1048576) : Calls Try.prog 61 #[v] w (Gives (.int .i64 (lenM cs)) w) := by
  have HV := hidH hv
  obtain ⟨a, cap, rfl, hlc, hcm⟩ := hv.len
  unfold maxLen at hcm
  clear hv
  go_enter Try.func61, Try.ntmps61
  go_wp2_with fail
  go_loopw [3, 4] (fun m i wr => ∃ k : Nat, k ≤ cs.length ∧ i = .int .i64 k ∧ m = .int .i64 (totN (cs.take k) : Nat) ∧ totN (cs.take k) ≤ 60 * k ∧ cntTo cs k ∧ Below w.heap.size w wr) (fun _ i _ => cs.length - (intOf i).toNat)
  case atStart => exact ⟨0, Nat.zero_le _, rfl, by simp [totN], by simp [totN], (fun _ _ h => absurd h (Nat.not_lt_zero _)), Below.refl _ _⟩
  case round =>
    obtain ⟨k, hk, rfl, rfl, h60, hct, hb⟩ := hrel
    have HCT := hidH hct
    have HB := hidH hb
    clear hct hb
    by_cases hlt : k < cs.length
    · obtain ⟨b, off, cc1, e, _, _, _, hcl⟩ := HV.out.addr (by omega)
      injection e with e1 e2 e3
      subst e1; subst e3
      obtain ⟨x, hx⟩ : ∃ x, cs[k]? = some x := ⟨cs[k], List.getElem?_eq_getElem hlt⟩
      obtain ⟨c, zs⟩ := x
      obtain ⟨p, q0, q1, q2⟩ := hcl k c zs hx
      have c0 : wr.cell? ⟨b, off + k * 2, none⟩ = some (.int .i64 c) := by rw [HB.out.cell (p := ⟨b, off + k * 2, none⟩) (cell_blk _ _ _ q0)]; exact q0
      have c1 : wr.cell? ⟨b, off + k * 2 + 1, none⟩ = some p := by rw [HB.out.cell (p := ⟨b, off + k * 2 + 1, none⟩) (cell_blk _ _ _ q1)]; exact q1
      have HP := hidH (q2.below HB.out)
      have HX := hidH hx
      obtain ⟨pa0, pc0, rfl⟩ := q2.some
      clear hcl q0 q1 q2 hx
      have HSN := hidH (totN_snoc cs k (c, zs) HX.out)
      generalize hpl : totN (cs.take k) = n at *
      have HPL := hidH hpl
      clear hpl
      go_wp2_with fail
      refine (sIn_any c 1 60 (cntS (c, zs)) rfl _).mono ?_; rintro e w5 ⟨rfl, rfl⟩
      cases hcn : cntS (c, zs)
      · have HF := hidH (lenM_bad HX.out hcn)
        clear hcn
        go_wp2_with fail
        go_ret
        rw [HF.out]
        exact ⟨rfl, HB.out⟩
      · have ⟨d1, d2⟩ := of_decide_eq_true (show decide ((1 : Int) ≤ c ∧ c ≤ 60) = true from hcn)
        have HCN := hidH (cntTo_next HCT.out HX.out hcn)
        clear hcn
        go_wp2_with fail
        go_roundw
        case rel => exact ⟨k + 1, by omega, by go_num, by rw [HSN.out]; show Value.int .i64 _ = Value.int .i64 _; congr 1; show (n : Int) + c = ((n + c.toNat : Nat) : Int); omega, by rw [HSN.out]; show n + c.toNat ≤ _; omega, HCN.out, HB.out⟩
        case measure => simp [intOf]; omega
    · obtain rfl : k = cs.length := by omega
      have HE := hidH (show lenM cs = (totN cs : Int) by rw [lenM, cntTo_all HCT.out]; rfl)
      rw [List.take_length] at h60 ⊢
      go_wp2_with fail
      go_ret
      rw [HE.out]
      exact ⟨rfl, HB.out⟩
set_option maxHeartbeats 1600000 in
theorem sPlanValid_any (v : Value) (cs : List (Int × List Int)) (w : World) (h1 : Nat) (hv : LiesSg w h1 v cs) (hn : cs.length ≤ 1048576) : Calls Try.prog 35 #[v] w (Gives (.bool (planOk cs)) w) := by
  have HV := hidH hv
  have HLN := hidH (sPlanLen_any v cs w h1 hv hn)
  obtain ⟨a, cap, rfl, hlc, hcm⟩ := hv.len
  unfold maxLen at hcm
  clear hv
  by_cases hbig : 60 < cs.length
  · rw [planOk_many hbig]
    go_enter Try.func35, Try.ntmps35
    go_wp2_with fail
    go_ret
    exact ⟨rfl, Below.refl _ _⟩
  · by_cases hin : 1 ≤ lenM cs ∧ lenM cs ≤ 60
    · have HIN := hidH (fun W => sIn_any (lenM cs) 1 60 true (decide_eq_true hin) W)
      have HCN := hidH (lenM_cnt hin.1)
      have HI := hidH hin
      generalize hlm : lenM cs = lm at *
      have HLM := hidH hlm
      clear hin hlm
      go_enter Try.func35, Try.ntmps35
      go_wp2_with fail
      refine HLN.out.mono ?_; rintro e w1 ⟨rfl, hb⟩
      have B1 := hidH hb
      clear hb
      go_wp2_with fail
      refine (HIN.out _).mono ?_; rintro e w_ ⟨rfl, rfl⟩
      go_wp2_with fail
      go_loopw [3] (fun i wr => ∃ k : Nat, k ≤ cs.length ∧ i = .int .i64 k ∧ okTo cs k ∧ Below w.heap.size w wr) (fun i _ => cs.length - (intOf i).toNat)
      case atStart => exact ⟨0, Nat.zero_le _, rfl, (fun _ _ h => absurd h (Nat.not_lt_zero _)), B1.out⟩
      case round =>
        obtain ⟨k, hk, rfl, hok, hb⟩ := hrel
        have HOK := hidH hok
        have HB := hidH hb
        clear hok hb
        by_cases hlt : k < cs.length
        · obtain ⟨b, off, cc1, e, _, _, _, hcl⟩ := HV.out.addr (by omega)
          injection e with e1 e2 e3
          subst e1; subst e3
          obtain ⟨x, hx⟩ : ∃ x, cs[k]? = some x := ⟨cs[k], List.getElem?_eq_getElem hlt⟩
          obtain ⟨c, zs⟩ := x
          obtain ⟨p, q0, q1, q2⟩ := hcl k c zs hx
          have c0 : wr.cell? ⟨b, off + k * 2, none⟩ = some (.int .i64 c) := by rw [HB.out.cell (p := ⟨b, off + k * 2, none⟩) (cell_blk _ _ _ q0)]; exact q0
          have c1 : wr.cell? ⟨b, off + k * 2 + 1, none⟩ = some p := by rw [HB.out.cell (p := ⟨b, off + k * 2 + 1, none⟩) (cell_blk _ _ _ q1)]; exact q1
          have HP := hidH (q2.below HB.out)
          have HX := hidH hx
          obtain ⟨pa0, pc0, rfl⟩ := q2.some
          clear hcl q0 q1 q2 hx
          have ⟨d1, d2⟩ := of_decide_eq_true (show decide ((1 : Int) ≤ c ∧ c ≤ 60) = true from List.all_eq_true.1 HCN.out (c, zs) (List.mem_of_getElem? HX.out))
          obtain ⟨m, rfl⟩ := Int.eq_ofNat_of_zero_le (show 0 ≤ c by omega)
          cases hp : polyOk zs
          · have HF := hidH (planOk_bad HX.out (show segOk ((m : Int), zs) = false by rw [segOk]; show (polyOk zs && _) = false; rw [hp]; rfl))
            have HPV := hidH (fun W (hl : Lies W 0 h1 (.slice pa0 zs.length pc0) zs) => sPolyValid_any _ zs W 0 h1 hl)
            rw [hp] at HPV
            clear hp
            rw [HF.out]
            go_wp2_with fail
            refine wp_region_held_drew (S := fun w' => w'.cell? ⟨b, off + k * 2, none⟩ = some (.int .i64 m) ∧ w'.cell? ⟨b, off + k * 2 + 1, none⟩ = some (.slice pa0 zs.length pc0)) (by kernel_rfl) ⟨c0, c1⟩ (fun hHeld => ?_)
            try dsimp only
            refine onG 0 (some 19) (v := ?v1_) (by kernel_rfl) (by kernel_rfl) (by kernel_rfl) (fun _ _ _ h => h) (by rfl) hHeld ?hy1_ ?rest1_
            case hy1_ =>
              intro o ho; simp only [List.getElem?_toArray, List.getElem?_cons_zero, Option.some.injEq] at ho; subst ho; intro w hSw; (try dsimp only at hSw)
              go_simp
              try with_reducible rfl
            case rest1_ =>
            try simp only [Act.put, List.setIfInBounds_toArray, List.set_cons_zero, List.set_cons_succ]
            refine onG 1 (some 20) (v := ?v2_) (by kernel_rfl) (by kernel_rfl) (by kernel_rfl) (fun _ _ _ h => h) (by rfl) hHeld ?hy2_ ?rest2_
            case hy2_ =>
              intro o ho; simp only [List.getElem?_toArray, List.getElem?_cons_succ, List.getElem?_cons_zero, Option.some.injEq] at ho; subst ho; intro w hSw; (try dsimp only at hSw)
              go_simp
              try with_reducible rfl
            case rest2_ =>
            try simp only [Act.put, List.setIfInBounds_toArray, List.set_cons_zero, List.set_cons_succ]
            refine onG 2 (some 21) (v := ?v3_) (by kernel_rfl) (by kernel_rfl) (by kernel_rfl) (fun _ _ _ h => h) (by rfl) hHeld ?hy3_ ?rest3_
            case hy3_ =>
              intro o ho; simp only [List.getElem?_toArray, List.getElem?_cons_succ, List.getElem?_cons_zero, Option.some.injEq] at ho; subst ho; intro w hSw; (try dsimp only at hSw)
              go_simp
              try with_reducible rfl
            case rest3_ =>
            try simp only [Act.put, List.setIfInBounds_toArray, List.set_cons_zero, List.set_cons_succ]
            refine onG 3 (some 22) (v := ?v4_) (by kernel_rfl) (by kernel_rfl) (by kernel_rfl) (fun _ _ _ h => h) (by rfl) hHeld ?hy4_ ?rest4_
            case hy4_ =>
              intro o ho; simp only [List.getElem?_toArray, List.getElem?_cons_succ, List.getElem?_cons_zero, Option.some.injEq] at ho; subst ho; intro w hSw; (try dsimp only at hSw)
              go_simp
              try with_reducible rfl
            case rest4_ =>
            try simp only [Act.put, List.setIfInBounds_toArray, List.set_cons_zero, List.set_cons_succ]
            refine onG 4 (some 23) (v := ?v5_) (by kernel_rfl) (by kernel_rfl) (by kernel_rfl) (fun _ _ _ h => h) (by rfl) hHeld ?hy5_ ?rest5_
            case hy5_ =>
              intro o ho; simp only [List.getElem?_toArray, List.getElem?_cons_succ, List.getElem?_cons_zero, Option.some.injEq] at ho; subst ho; intro w hSw; (try dsimp only at hSw)
              go_simp
              try with_reducible rfl
            case rest5_ =>
            try simp only [Act.put, List.setIfInBounds_toArray, List.set_cons_zero, List.set_cons_succ]
            refine callG 5 (by kernel_rfl) ?_
            intro o ho; simp only [List.getElem?_toArray, List.getElem?_cons_succ, List.getElem?_cons_zero, Option.some.injEq] at ho; subst ho; intro K hK
            go_simp
            go_at_call 62
            (with_reducible refine (HPV.out _ (HP.out.below (Below.refl _ _).drew)).mono ?_)
            rintro e wd ⟨rfl, rfl⟩
            (clear hHeld)
            go_wp2_with fail
            refine hK.out _ _ ?_ (fun hHeld => ?_)
            · exact ⟨c0, c1⟩
            clear hK K
            try simp only [Act.put, List.setIfInBounds_toArray, List.set_cons_zero, List.set_cons_succ]
            refine onG 6 (some 25) (v := ?v6_) (by kernel_rfl) (by kernel_rfl) (by kernel_rfl) (fun _ _ _ h => h) (by rfl) hHeld ?hy6_ ?rest6_
            case hy6_ =>
              intro o ho; simp only [List.getElem?_toArray, List.getElem?_cons_succ, List.getElem?_cons_zero, Option.some.injEq] at ho; subst ho; intro w hSw; (try dsimp only at hSw)
              go_simp
              try with_reducible rfl
            case rest6_ =>
            try simp only [Act.put, List.setIfInBounds_toArray, List.set_cons_zero, List.set_cons_succ]
            refine onG 7 (some 26) (v := ?v7_) (by kernel_rfl) (by kernel_rfl) (by kernel_rfl) (fun _ _ _ h => h) (by rfl) hHeld ?hy7_ ?rest7_
            case hy7_ =>
              intro o ho; simp only [List.getElem?_toArray, List.getElem?_cons_succ, List.getElem?_cons_zero, Option.some.injEq] at ho; subst ho; intro w hSw; (try dsimp only at hSw)
              go_simp
              try with_reducible rfl
            case rest7_ =>
            try simp only [Act.put, List.setIfInBounds_toArray, List.set_cons_zero, List.set_cons_succ]
            refine offG 8 (some 27) (by kernel_rfl) (by kernel_rfl) (by kernel_rfl) (fun _ _ _ h => h) (by rfl) hHeld ?_
            try simp only [Act.put, List.setIfInBounds_toArray, List.set_cons_zero, List.set_cons_succ]
            refine offG 9 (some 28) (by kernel_rfl) (by kernel_rfl) (by kernel_rfl) (fun _ _ _ h => h) (by rfl) hHeld ?_
            try simp only [Act.put, List.setIfInBounds_toArray, List.set_cons_zero, List.set_cons_succ]
            refine offG 10 (some 29) (by kernel_rfl) (by kernel_rfl) (by kernel_rfl) (fun _ _ _ h => h) (by rfl) hHeld ?_
            try simp only [Act.put, List.setIfInBounds_toArray, List.set_cons_zero, List.set_cons_succ]
            refine offG 11 (some 30) (by kernel_rfl) (by kernel_rfl) (by kernel_rfl) (fun _ _ _ h => h) (by rfl) hHeld ?_
            try simp only [Act.put, List.setIfInBounds_toArray, List.set_cons_zero, List.set_cons_succ]
            refine offG 12 (some 31) (by kernel_rfl) (by kernel_rfl) (by kernel_rfl) (fun _ _ _ h => h) (by rfl) hHeld ?_
            try simp only [Act.put, List.setIfInBounds_toArray, List.set_cons_zero, List.set_cons_succ]
            refine offG 13 (some 32) (by kernel_rfl) (by kernel_rfl) (by kernel_rfl) (fun _ _ _ h => h) (by rfl) hHeld ?_
            try simp only [Act.put, List.setIfInBounds_toArray, List.set_cons_zero, List.set_cons_succ]
            refine offG 14 (some 33) (by kernel_rfl) (by kernel_rfl) (by kernel_rfl) (fun _ _ _ h => h) (by rfl) hHeld ?_
            try simp only [Act.put, List.setIfInBounds_toArray, List.set_cons_zero, List.set_cons_succ]
            refine offG 15 (some 34) (by kernel_rfl) (by kernel_rfl) (by kernel_rfl) (fun _ _ _ h => h) (by rfl) hHeld ?_
            try simp only [Act.put, List.setIfInBounds_toArray, List.set_cons_zero, List.set_cons_succ]
            refine offG 16 (some 35) (by kernel_rfl) (by kernel_rfl) (by kernel_rfl) (fun _ _ _ h => h) (by rfl) hHeld ?_
            try simp only [Act.put, List.setIfInBounds_toArray, List.set_cons_zero, List.set_cons_succ]
            refine offG 17 (some 36) (by kernel_rfl) (by kernel_rfl) (by kernel_rfl) (fun _ _ _ h => h) (by rfl) hHeld ?_
            try simp only [Act.put, List.setIfInBounds_toArray, List.set_cons_zero, List.set_cons_succ]
            refine offG 18 (some 37) (by kernel_rfl) (by kernel_rfl) (by kernel_rfl) (fun _ _ _ h => h) (by rfl) hHeld ?_
            try simp only [Act.put, List.setIfInBounds_toArray, List.set_cons_zero, List.set_cons_succ]
            refine offG 19 (some 38) (by kernel_rfl) (by kernel_rfl) (by kernel_rfl) (fun _ _ _ h => h) (by rfl) hHeld ?_
            try simp only [Act.put, List.setIfInBounds_toArray, List.set_cons_zero, List.set_cons_succ]
            refine offG 20 (some 39) (by kernel_rfl) (by kernel_rfl) (by kernel_rfl) (fun _ _ _ h => h) (by rfl) hHeld ?_
            try simp only [Act.put, List.setIfInBounds_toArray, List.set_cons_zero, List.set_cons_succ]
            refine onG 21 (some 40) (v := ?v8_) (by kernel_rfl) (by kernel_rfl) (by kernel_rfl) (fun _ _ _ h => h) (by rfl) hHeld ?hy8_ ?rest8_
            case hy8_ =>
              intro o ho; simp only [List.getElem?_toArray, List.getElem?_cons_succ, List.getElem?_cons_zero, Option.some.injEq] at ho; subst ho; intro w hSw; (try dsimp only at hSw)
              go_simp
              try with_reducible rfl
            case rest8_ =>
            try simp only [Act.put, List.setIfInBounds_toArray, List.set_cons_zero, List.set_cons_succ]
            refine wpAnyH_done (by kernel_rfl) ?_ _
            go_wp2_with fail
            go_ret
            exact ⟨rfl, HB.out.drew⟩
          · have HPV := hidH (fun W (hl : Lies W 0 h1 (.slice pa0 zs.length pc0) zs) => sPolyValid_any _ zs W 0 h1 hl)
            rw [hp] at HPV
            have HSM := hidH (polyOk_small zs hp).2
            have HVV := hidH (fun W (hl : Lies W 0 h1 (.slice pa0 zs.length pc0) zs) => sValues_any (.slice pa0 zs.length pc0) zs 0 1 m W 0 h1 hl HSM.out (by omega) (by omega) (fun i hi => by omega))
            cases ht : tableOk (valsS zs 0 1 m)
            · have HTO := hidH ht
              have HF := hidH (planOk_bad HX.out (show segOk ((m : Int), zs) = false by rw [segOk]; show (polyOk zs && (decide ((1 : Int) ≤ (m : Int) ∧ (m : Int) ≤ 60) && tableOk (vals zs 0 m))) = false; rw [← valsS_one, ht, Bool.and_false, Bool.and_false]))
              rw [HF.out]
              clear hp ht
              go_wp2_with fail
              refine wp_region_held_drew (S := fun w' => w'.cell? ⟨b, off + k * 2, none⟩ = some (.int .i64 m) ∧ w'.cell? ⟨b, off + k * 2 + 1, none⟩ = some (.slice pa0 zs.length pc0)) (by kernel_rfl) ⟨c0, c1⟩ (fun hHeld => ?_)
              try dsimp only
              refine onG 0 (some 19) (v := ?v9_) (by kernel_rfl) (by kernel_rfl) (by kernel_rfl) (fun _ _ _ h => h) (by rfl) hHeld ?hy9_ ?rest9_
              case hy9_ =>
                intro o ho; simp only [List.getElem?_toArray, List.getElem?_cons_zero, Option.some.injEq] at ho; subst ho; intro w hSw; (try dsimp only at hSw)
                go_simp
                try with_reducible rfl
              case rest9_ =>
              try simp only [Act.put, List.setIfInBounds_toArray, List.set_cons_zero, List.set_cons_succ]
              refine onG 1 (some 20) (v := ?v10_) (by kernel_rfl) (by kernel_rfl) (by kernel_rfl) (fun _ _ _ h => h) (by rfl) hHeld ?hy10_ ?rest10_
              case hy10_ =>
                intro o ho; simp only [List.getElem?_toArray, List.getElem?_cons_succ, List.getElem?_cons_zero, Option.some.injEq] at ho; subst ho; intro w hSw; (try dsimp only at hSw)
                go_simp
                try with_reducible rfl
              case rest10_ =>
              try simp only [Act.put, List.setIfInBounds_toArray, List.set_cons_zero, List.set_cons_succ]
              refine onG 2 (some 21) (v := ?v11_) (by kernel_rfl) (by kernel_rfl) (by kernel_rfl) (fun _ _ _ h => h) (by rfl) hHeld ?hy11_ ?rest11_
              case hy11_ =>
                intro o ho; simp only [List.getElem?_toArray, List.getElem?_cons_succ, List.getElem?_cons_zero, Option.some.injEq] at ho; subst ho; intro w hSw; (try dsimp only at hSw)
                go_simp
                try with_reducible rfl
              case rest11_ =>
              try simp only [Act.put, List.setIfInBounds_toArray, List.set_cons_zero, List.set_cons_succ]
              refine onG 3 (some 22) (v := ?v12_) (by kernel_rfl) (by kernel_rfl) (by kernel_rfl) (fun _ _ _ h => h) (by rfl) hHeld ?hy12_ ?rest12_
              case hy12_ =>
                intro o ho; simp only [List.getElem?_toArray, List.getElem?_cons_succ, List.getElem?_cons_zero, Option.some.injEq] at ho; subst ho; intro w hSw; (try dsimp only at hSw)
                go_simp
                try with_reducible rfl
              case rest12_ =>
              try simp only [Act.put, List.setIfInBounds_toArray, List.set_cons_zero, List.set_cons_succ]
              refine onG 4 (some 23) (v := ?v13_) (by kernel_rfl) (by kernel_rfl) (by kernel_rfl) (fun _ _ _ h => h) (by rfl) hHeld ?hy13_ ?rest13_
              case hy13_ =>
                intro o ho; simp only [List.getElem?_toArray, List.getElem?_cons_succ, List.getElem?_cons_zero, Option.some.injEq] at ho; subst ho; intro w hSw; (try dsimp only at hSw)
                go_simp
                try with_reducible rfl
              case rest13_ =>
              try simp only [Act.put, List.setIfInBounds_toArray, List.set_cons_zero, List.set_cons_succ]
              refine callG 5 (by kernel_rfl) ?_
              intro o ho; simp only [List.getElem?_toArray, List.getElem?_cons_succ, List.getElem?_cons_zero, Option.some.injEq] at ho; subst ho; intro K hK
              go_simp
              go_at_call 62
              (with_reducible refine (HPV.out _ (HP.out.below (Below.refl _ _).drew)).mono ?_)
              rintro e wd ⟨rfl, rfl⟩
              (clear hHeld)
              go_wp2_with fail
              refine hK.out _ _ ?_ (fun hHeld => ?_)
              · exact ⟨c0, c1⟩
              clear hK K
              try simp only [Act.put, List.setIfInBounds_toArray, List.set_cons_zero, List.set_cons_succ]
              refine onG 6 (some 25) (v := ?v14_) (by kernel_rfl) (by kernel_rfl) (by kernel_rfl) (fun _ _ _ h => h) (by rfl) hHeld ?hy14_ ?rest14_
              case hy14_ =>
                intro o ho; simp only [List.getElem?_toArray, List.getElem?_cons_succ, List.getElem?_cons_zero, Option.some.injEq] at ho; subst ho; intro w hSw; (try dsimp only at hSw)
                go_simp
                try with_reducible rfl
              case rest14_ =>
              try simp only [Act.put, List.setIfInBounds_toArray, List.set_cons_zero, List.set_cons_succ]
              refine onG 7 (some 26) (v := ?v15_) (by kernel_rfl) (by kernel_rfl) (by kernel_rfl) (fun _ _ _ h => h) (by rfl) hHeld ?hy15_ ?rest15_
              case hy15_ =>
                intro o ho; simp only [List.getElem?_toArray, List.getElem?_cons_succ, List.getElem?_cons_zero, Option.some.injEq] at ho; subst ho; intro w hSw; (try dsimp only at hSw)
                go_simp
                try with_reducible rfl
              case rest15_ =>
              try simp only [Act.put, List.setIfInBounds_toArray, List.set_cons_zero, List.set_cons_succ]
              refine onG 8 (some 27) (v := ?v16_) (by kernel_rfl) (by kernel_rfl) (by kernel_rfl) (fun _ _ _ h => h) (by rfl) hHeld ?hy16_ ?rest16_
              case hy16_ =>
                intro o ho; simp only [List.getElem?_toArray, List.getElem?_cons_succ, List.getElem?_cons_zero, Option.some.injEq] at ho; subst ho; intro w hSw; (try dsimp only at hSw)
                go_simp
                try with_reducible rfl
              case rest16_ =>
              try simp only [Act.put, List.setIfInBounds_toArray, List.set_cons_zero, List.set_cons_succ]
              refine onG 9 (some 28) (v := ?v17_) (by kernel_rfl) (by kernel_rfl) (by kernel_rfl) (fun _ _ _ h => h) (by rfl) hHeld ?hy17_ ?rest17_
              case hy17_ =>
                intro o ho; simp only [List.getElem?_toArray, List.getElem?_cons_succ, List.getElem?_cons_zero, Option.some.injEq] at ho; subst ho; intro w hSw; (try dsimp only at hSw)
                go_simp
                try with_reducible rfl
              case rest17_ =>
              try simp only [Act.put, List.setIfInBounds_toArray, List.set_cons_zero, List.set_cons_succ]
              refine onG 10 (some 29) (v := ?v18_) (by kernel_rfl) (by kernel_rfl) (by kernel_rfl) (fun _ _ _ h => h) (by rfl) hHeld ?hy18_ ?rest18_
              case hy18_ =>
                intro o ho; simp only [List.getElem?_toArray, List.getElem?_cons_succ, List.getElem?_cons_zero, Option.some.injEq] at ho; subst ho; intro w hSw; (try dsimp only at hSw)
                go_simp
                try with_reducible rfl
              case rest18_ =>
              try simp only [Act.put, List.setIfInBounds_toArray, List.set_cons_zero, List.set_cons_succ]
              refine onG 11 (some 30) (v := ?v19_) (by kernel_rfl) (by kernel_rfl) (by kernel_rfl) (fun _ _ _ h => h) (by rfl) hHeld ?hy19_ ?rest19_
              case hy19_ =>
                intro o ho; simp only [List.getElem?_toArray, List.getElem?_cons_succ, List.getElem?_cons_zero, Option.some.injEq] at ho; subst ho; intro w hSw; (try dsimp only at hSw)
                go_simp
                try with_reducible rfl
              case rest19_ =>
              try simp only [Act.put, List.setIfInBounds_toArray, List.set_cons_zero, List.set_cons_succ]
              refine onG 12 (some 31) (v := ?v20_) (by kernel_rfl) (by kernel_rfl) (by kernel_rfl) (fun _ _ _ h => h) (by rfl) hHeld ?hy20_ ?rest20_
              case hy20_ =>
                intro o ho; simp only [List.getElem?_toArray, List.getElem?_cons_succ, List.getElem?_cons_zero, Option.some.injEq] at ho; subst ho; intro w hSw; (try dsimp only at hSw)
                go_simp
                try with_reducible rfl
              case rest20_ =>
              try simp only [Act.put, List.setIfInBounds_toArray, List.set_cons_zero, List.set_cons_succ]
              refine onG 13 (some 32) (v := ?v21_) (by kernel_rfl) (by kernel_rfl) (by kernel_rfl) (fun _ _ _ h => h) (by rfl) hHeld ?hy21_ ?rest21_
              case hy21_ =>
                intro o ho; simp only [List.getElem?_toArray, List.getElem?_cons_succ, List.getElem?_cons_zero, Option.some.injEq] at ho; subst ho; intro w hSw; (try dsimp only at hSw)
                go_simp
                try with_reducible rfl
              case rest21_ =>
              try simp only [Act.put, List.setIfInBounds_toArray, List.set_cons_zero, List.set_cons_succ]
              refine onG 14 (some 33) (v := ?v22_) (by kernel_rfl) (by kernel_rfl) (by kernel_rfl) (fun _ _ _ h => h) (by rfl) hHeld ?hy22_ ?rest22_
              case hy22_ =>
                intro o ho; simp only [List.getElem?_toArray, List.getElem?_cons_succ, List.getElem?_cons_zero, Option.some.injEq] at ho; subst ho; intro w hSw; (try dsimp only at hSw)
                go_simp
                try with_reducible rfl
              case rest22_ =>
              try simp only [Act.put, List.setIfInBounds_toArray, List.set_cons_zero, List.set_cons_succ]
              refine onG 15 (some 34) (v := ?v23_) (by kernel_rfl) (by kernel_rfl) (by kernel_rfl) (fun _ _ _ h => h) (by rfl) hHeld ?hy23_ ?rest23_
              case hy23_ =>
                intro o ho; simp only [List.getElem?_toArray, List.getElem?_cons_succ, List.getElem?_cons_zero, Option.some.injEq] at ho; subst ho; intro w hSw; (try dsimp only at hSw)
                go_simp
                try with_reducible rfl
              case rest23_ =>
              try simp only [Act.put, List.setIfInBounds_toArray, List.set_cons_zero, List.set_cons_succ]
              refine onG 16 (some 35) (v := ?v24_) (by kernel_rfl) (by kernel_rfl) (by kernel_rfl) (fun _ _ _ h => h) (by rfl) hHeld ?hy24_ ?rest24_
              case hy24_ =>
                intro o ho; simp only [List.getElem?_toArray, List.getElem?_cons_succ, List.getElem?_cons_zero, Option.some.injEq] at ho; subst ho; intro w hSw; (try dsimp only at hSw)
                go_simp
                try with_reducible rfl
              case rest24_ =>
              try simp only [Act.put, List.setIfInBounds_toArray, List.set_cons_zero, List.set_cons_succ]
              refine onG 17 (some 36) (v := ?v25_) (by kernel_rfl) (by kernel_rfl) (by kernel_rfl) (fun _ _ _ h => h) (by rfl) hHeld ?hy25_ ?rest25_
              case hy25_ =>
                intro o ho; simp only [List.getElem?_toArray, List.getElem?_cons_succ, List.getElem?_cons_zero, Option.some.injEq] at ho; subst ho; intro w hSw; (try dsimp only at hSw)
                go_simp
                try with_reducible rfl
              case rest25_ =>
              try simp only [Act.put, List.setIfInBounds_toArray, List.set_cons_zero, List.set_cons_succ]
              refine callG 18 (by kernel_rfl) ?_
              intro o ho; simp only [List.getElem?_toArray, List.getElem?_cons_succ, List.getElem?_cons_zero, Option.some.injEq] at ho; subst ho; intro K hK
              go_simp
              go_at_call 64
              (with_reducible refine (HVV.out _ (HP.out.below (Below.refl _ _).drew)).mono ?_)
              rintro e w3 ⟨u, rfl, hr, hb⟩
              (have RV := hidH hr)
              (have BV := hidH (show Below wr.heap.size wr w3 from ((Below.refl wr.heap.size wr).drew).trans hb))
              (have d0 : w3.cell? ⟨b, off + k * 2, none⟩ = some (.int .i64 m) := (BV.out.cell (p := ⟨b, off + k * 2, none⟩) (cell_blk _ _ _ c0)).trans c0)
              (have d1 : w3.cell? ⟨b, off + k * 2 + 1, none⟩ = some (.slice pa0 zs.length pc0) := (BV.out.cell (p := ⟨b, off + k * 2 + 1, none⟩) (cell_blk _ _ _ c1)).trans c1)
              (clear hr hb hHeld)
              go_wp2_with fail
              refine hK.out _ _ ?_ (fun hHeld => ?_)
              · exact ⟨d0, d1⟩
              clear hK K
              try simp only [Act.put, List.setIfInBounds_toArray, List.set_cons_zero, List.set_cons_succ]
              refine callG 19 (by kernel_rfl) ?_
              intro o ho; simp only [List.getElem?_toArray, List.getElem?_cons_succ, List.getElem?_cons_zero, Option.some.injEq] at ho; subst ho; intro K hK
              go_simp
              go_at_call 63
              (with_reducible refine (sTableValid_gives _ (valsS zs 0 1 m) _ _ _ RV.out.lies).mono ?_)
              rintro e w4 ⟨rfl, hb⟩
              (rw [HTO.out])
              (have BT := hidH (bThen BV.out hb))
              (have f0 : w4.cell? ⟨b, off + k * 2, none⟩ = some (.int .i64 m) := (hb.cell (p := ⟨b, off + k * 2, none⟩) (cell_blk _ _ _ d0)).trans d0)
              (have f1 : w4.cell? ⟨b, off + k * 2 + 1, none⟩ = some (.slice pa0 zs.length pc0) := (hb.cell (p := ⟨b, off + k * 2 + 1, none⟩) (cell_blk _ _ _ d1)).trans d1)
              (clear hb hHeld)
              go_wp2_with fail
              refine hK.out _ _ ?_ (fun hHeld => ?_)
              · exact ⟨f0, f1⟩
              clear hK K
              try simp only [Act.put, List.setIfInBounds_toArray, List.set_cons_zero, List.set_cons_succ]
              refine onG 20 (some 39) (v := ?v26_) (by kernel_rfl) (by kernel_rfl) (by kernel_rfl) (fun _ _ _ h => h) (by rfl) hHeld ?hy26_ ?rest26_
              case hy26_ =>
                intro o ho; simp only [List.getElem?_toArray, List.getElem?_cons_succ, List.getElem?_cons_zero, Option.some.injEq] at ho; subst ho; intro w hSw; (try dsimp only at hSw)
                go_simp
                try with_reducible rfl
              case rest26_ =>
              try simp only [Act.put, List.setIfInBounds_toArray, List.set_cons_zero, List.set_cons_succ]
              refine onG 21 (some 40) (v := ?v27_) (by kernel_rfl) (by kernel_rfl) (by kernel_rfl) (fun _ _ _ h => h) (by rfl) hHeld ?hy27_ ?rest27_
              case hy27_ =>
                intro o ho; simp only [List.getElem?_toArray, List.getElem?_cons_succ, List.getElem?_cons_zero, Option.some.injEq] at ho; subst ho; intro w hSw; (try dsimp only at hSw)
                go_simp
                try with_reducible rfl
              case rest27_ =>
              try simp only [Act.put, List.setIfInBounds_toArray, List.set_cons_zero, List.set_cons_succ]
              refine wpAnyH_done (by kernel_rfl) ?_ _
              go_wp2_with fail
              go_ret
              exact ⟨rfl, HB.out.trans (BT.out.mono HB.out.size)⟩
            · have HTO := hidH ht
              have HON := hidH (okTo_next HOK.out HX.out (show segOk ((m : Int), zs) = true by rw [segOk]; show (polyOk zs && (decide ((1 : Int) ≤ (m : Int) ∧ (m : Int) ≤ 60) && tableOk (vals zs 0 m))) = true; rw [← valsS_one, ht, hp, decide_eq_true ⟨d1, d2⟩]; rfl))
              clear hp ht
              go_wp2_with fail
              refine wp_region_held_drew (S := fun w' => w'.cell? ⟨b, off + k * 2, none⟩ = some (.int .i64 m) ∧ w'.cell? ⟨b, off + k * 2 + 1, none⟩ = some (.slice pa0 zs.length pc0)) (by kernel_rfl) ⟨c0, c1⟩ (fun hHeld => ?_)
              try dsimp only
              refine onG 0 (some 19) (v := ?v28_) (by kernel_rfl) (by kernel_rfl) (by kernel_rfl) (fun _ _ _ h => h) (by rfl) hHeld ?hy28_ ?rest28_
              case hy28_ =>
                intro o ho; simp only [List.getElem?_toArray, List.getElem?_cons_zero, Option.some.injEq] at ho; subst ho; intro w hSw; (try dsimp only at hSw)
                go_simp
                try with_reducible rfl
              case rest28_ =>
              try simp only [Act.put, List.setIfInBounds_toArray, List.set_cons_zero, List.set_cons_succ]
              refine onG 1 (some 20) (v := ?v29_) (by kernel_rfl) (by kernel_rfl) (by kernel_rfl) (fun _ _ _ h => h) (by rfl) hHeld ?hy29_ ?rest29_
              case hy29_ =>
                intro o ho; simp only [List.getElem?_toArray, List.getElem?_cons_succ, List.getElem?_cons_zero, Option.some.injEq] at ho; subst ho; intro w hSw; (try dsimp only at hSw)
                go_simp
                try with_reducible rfl
              case rest29_ =>
              try simp only [Act.put, List.setIfInBounds_toArray, List.set_cons_zero, List.set_cons_succ]
              refine onG 2 (some 21) (v := ?v30_) (by kernel_rfl) (by kernel_rfl) (by kernel_rfl) (fun _ _ _ h => h) (by rfl) hHeld ?hy30_ ?rest30_
              case hy30_ =>
                intro o ho; simp only [List.getElem?_toArray, List.getElem?_cons_succ, List.getElem?_cons_zero, Option.some.injEq] at ho; subst ho; intro w hSw; (try dsimp only at hSw)
                go_simp
                try with_reducible rfl
              case rest30_ =>
              try simp only [Act.put, List.setIfInBounds_toArray, List.set_cons_zero, List.set_cons_succ]
              refine onG 3 (some 22) (v := ?v31_) (by kernel_rfl) (by kernel_rfl) (by kernel_rfl) (fun _ _ _ h => h) (by rfl) hHeld ?hy31_ ?rest31_
              case hy31_ =>
                intro o ho; simp only [List.getElem?_toArray, List.getElem?_cons_succ, List.getElem?_cons_zero, Option.some.injEq] at ho; subst ho; intro w hSw; (try dsimp only at hSw)
                go_simp
                try with_reducible rfl
              case rest31_ =>
              try simp only [Act.put, List.setIfInBounds_toArray, List.set_cons_zero, List.set_cons_succ]
              refine onG 4 (some 23) (v := ?v32_) (by kernel_rfl) (by kernel_rfl) (by kernel_rfl) (fun _ _ _ h => h) (by rfl) hHeld ?hy32_ ?rest32_
              case hy32_ =>
                intro o ho; simp only [List.getElem?_toArray, List.getElem?_cons_succ, List.getElem?_cons_zero, Option.some.injEq] at ho; subst ho; intro w hSw; (try dsimp only at hSw)
                go_simp
                try with_reducible rfl
              case rest32_ =>
              try simp only [Act.put, List.setIfInBounds_toArray, List.set_cons_zero, List.set_cons_succ]
              refine callG 5 (by kernel_rfl) ?_
              intro o ho; simp only [List.getElem?_toArray, List.getElem?_cons_succ, List.getElem?_cons_zero, Option.some.injEq] at ho; subst ho; intro K hK
              go_simp
              go_at_call 62
              (with_reducible refine (HPV.out _ (HP.out.below (Below.refl _ _).drew)).mono ?_)
              rintro e wd ⟨rfl, rfl⟩
              (clear hHeld)
              go_wp2_with fail
              refine hK.out _ _ ?_ (fun hHeld => ?_)
              · exact ⟨c0, c1⟩
              clear hK K
              try simp only [Act.put, List.setIfInBounds_toArray, List.set_cons_zero, List.set_cons_succ]
              refine onG 6 (some 25) (v := ?v33_) (by kernel_rfl) (by kernel_rfl) (by kernel_rfl) (fun _ _ _ h => h) (by rfl) hHeld ?hy33_ ?rest33_
              case hy33_ =>
                intro o ho; simp only [List.getElem?_toArray, List.getElem?_cons_succ, List.getElem?_cons_zero, Option.some.injEq] at ho; subst ho; intro w hSw; (try dsimp only at hSw)
                go_simp
                try with_reducible rfl
              case rest33_ =>
              try simp only [Act.put, List.setIfInBounds_toArray, List.set_cons_zero, List.set_cons_succ]
              refine onG 7 (some 26) (v := ?v34_) (by kernel_rfl) (by kernel_rfl) (by kernel_rfl) (fun _ _ _ h => h) (by rfl) hHeld ?hy34_ ?rest34_
              case hy34_ =>
                intro o ho; simp only [List.getElem?_toArray, List.getElem?_cons_succ, List.getElem?_cons_zero, Option.some.injEq] at ho; subst ho; intro w hSw; (try dsimp only at hSw)
                go_simp
                try with_reducible rfl
              case rest34_ =>
              try simp only [Act.put, List.setIfInBounds_toArray, List.set_cons_zero, List.set_cons_succ]
              refine onG 8 (some 27) (v := ?v35_) (by kernel_rfl) (by kernel_rfl) (by kernel_rfl) (fun _ _ _ h => h) (by rfl) hHeld ?hy35_ ?rest35_
              case hy35_ =>
                intro o ho; simp only [List.getElem?_toArray, List.getElem?_cons_succ, List.getElem?_cons_zero, Option.some.injEq] at ho; subst ho; intro w hSw; (try dsimp only at hSw)
                go_simp
                try with_reducible rfl
              case rest35_ =>
              try simp only [Act.put, List.setIfInBounds_toArray, List.set_cons_zero, List.set_cons_succ]
              refine onG 9 (some 28) (v := ?v36_) (by kernel_rfl) (by kernel_rfl) (by kernel_rfl) (fun _ _ _ h => h) (by rfl) hHeld ?hy36_ ?rest36_
              case hy36_ =>
                intro o ho; simp only [List.getElem?_toArray, List.getElem?_cons_succ, List.getElem?_cons_zero, Option.some.injEq] at ho; subst ho; intro w hSw; (try dsimp only at hSw)
                go_simp
                try with_reducible rfl
              case rest36_ =>
              try simp only [Act.put, List.setIfInBounds_toArray, List.set_cons_zero, List.set_cons_succ]
              refine onG 10 (some 29) (v := ?v37_) (by kernel_rfl) (by kernel_rfl) (by kernel_rfl) (fun _ _ _ h => h) (by rfl) hHeld ?hy37_ ?rest37_
              case hy37_ =>
                intro o ho; simp only [List.getElem?_toArray, List.getElem?_cons_succ, List.getElem?_cons_zero, Option.some.injEq] at ho; subst ho; intro w hSw; (try dsimp only at hSw)
                go_simp
                try with_reducible rfl
              case rest37_ =>
              try simp only [Act.put, List.setIfInBounds_toArray, List.set_cons_zero, List.set_cons_succ]
              refine onG 11 (some 30) (v := ?v38_) (by kernel_rfl) (by kernel_rfl) (by kernel_rfl) (fun _ _ _ h => h) (by rfl) hHeld ?hy38_ ?rest38_
              case hy38_ =>
                intro o ho; simp only [List.getElem?_toArray, List.getElem?_cons_succ, List.getElem?_cons_zero, Option.some.injEq] at ho; subst ho; intro w hSw; (try dsimp only at hSw)
                go_simp
                try with_reducible rfl
              case rest38_ =>
              try simp only [Act.put, List.setIfInBounds_toArray, List.set_cons_zero, List.set_cons_succ]
              refine onG 12 (some 31) (v := ?v39_) (by kernel_rfl) (by kernel_rfl) (by kernel_rfl) (fun _ _ _ h => h) (by rfl) hHeld ?hy39_ ?rest39_
              case hy39_ =>
                intro o ho; simp only [List.getElem?_toArray, List.getElem?_cons_succ, List.getElem?_cons_zero, Option.some.injEq] at ho; subst ho; intro w hSw; (try dsimp only at hSw)
                go_simp
                try with_reducible rfl
              case rest39_ =>
              try simp only [Act.put, List.setIfInBounds_toArray, List.set_cons_zero, List.set_cons_succ]
              refine onG 13 (some 32) (v := ?v40_) (by kernel_rfl) (by kernel_rfl) (by kernel_rfl) (fun _ _ _ h => h) (by rfl) hHeld ?hy40_ ?rest40_
              case hy40_ =>
                intro o ho; simp only [List.getElem?_toArray, List.getElem?_cons_succ, List.getElem?_cons_zero, Option.some.injEq] at ho; subst ho; intro w hSw; (try dsimp only at hSw)
                go_simp
                try with_reducible rfl
              case rest40_ =>
              try simp only [Act.put, List.setIfInBounds_toArray, List.set_cons_zero, List.set_cons_succ]
              refine onG 14 (some 33) (v := ?v41_) (by kernel_rfl) (by kernel_rfl) (by kernel_rfl) (fun _ _ _ h => h) (by rfl) hHeld ?hy41_ ?rest41_
              case hy41_ =>
                intro o ho; simp only [List.getElem?_toArray, List.getElem?_cons_succ, List.getElem?_cons_zero, Option.some.injEq] at ho; subst ho; intro w hSw; (try dsimp only at hSw)
                go_simp
                try with_reducible rfl
              case rest41_ =>
              try simp only [Act.put, List.setIfInBounds_toArray, List.set_cons_zero, List.set_cons_succ]
              refine onG 15 (some 34) (v := ?v42_) (by kernel_rfl) (by kernel_rfl) (by kernel_rfl) (fun _ _ _ h => h) (by rfl) hHeld ?hy42_ ?rest42_
              case hy42_ =>
                intro o ho; simp only [List.getElem?_toArray, List.getElem?_cons_succ, List.getElem?_cons_zero, Option.some.injEq] at ho; subst ho; intro w hSw; (try dsimp only at hSw)
                go_simp
                try with_reducible rfl
              case rest42_ =>
              try simp only [Act.put, List.setIfInBounds_toArray, List.set_cons_zero, List.set_cons_succ]
              refine onG 16 (some 35) (v := ?v43_) (by kernel_rfl) (by kernel_rfl) (by kernel_rfl) (fun _ _ _ h => h) (by rfl) hHeld ?hy43_ ?rest43_
              case hy43_ =>
                intro o ho; simp only [List.getElem?_toArray, List.getElem?_cons_succ, List.getElem?_cons_zero, Option.some.injEq] at ho; subst ho; intro w hSw; (try dsimp only at hSw)
                go_simp
                try with_reducible rfl
              case rest43_ =>
              try simp only [Act.put, List.setIfInBounds_toArray, List.set_cons_zero, List.set_cons_succ]
              refine onG 17 (some 36) (v := ?v44_) (by kernel_rfl) (by kernel_rfl) (by kernel_rfl) (fun _ _ _ h => h) (by rfl) hHeld ?hy44_ ?rest44_
              case hy44_ =>
                intro o ho; simp only [List.getElem?_toArray, List.getElem?_cons_succ, List.getElem?_cons_zero, Option.some.injEq] at ho; subst ho; intro w hSw; (try dsimp only at hSw)
                go_simp
                try with_reducible rfl
              case rest44_ =>
              try simp only [Act.put, List.setIfInBounds_toArray, List.set_cons_zero, List.set_cons_succ]
              refine callG 18 (by kernel_rfl) ?_
              intro o ho; simp only [List.getElem?_toArray, List.getElem?_cons_succ, List.getElem?_cons_zero, Option.some.injEq] at ho; subst ho; intro K hK
              go_simp
              go_at_call 64
              (with_reducible refine (HVV.out _ (HP.out.below (Below.refl _ _).drew)).mono ?_)
              rintro e w3 ⟨u, rfl, hr, hb⟩
              (have RV := hidH hr)
              (have BV := hidH (show Below wr.heap.size wr w3 from ((Below.refl wr.heap.size wr).drew).trans hb))
              (have d0 : w3.cell? ⟨b, off + k * 2, none⟩ = some (.int .i64 m) := (BV.out.cell (p := ⟨b, off + k * 2, none⟩) (cell_blk _ _ _ c0)).trans c0)
              (have d1 : w3.cell? ⟨b, off + k * 2 + 1, none⟩ = some (.slice pa0 zs.length pc0) := (BV.out.cell (p := ⟨b, off + k * 2 + 1, none⟩) (cell_blk _ _ _ c1)).trans c1)
              (clear hr hb hHeld)
              go_wp2_with fail
              refine hK.out _ _ ?_ (fun hHeld => ?_)
              · exact ⟨d0, d1⟩
              clear hK K
              try simp only [Act.put, List.setIfInBounds_toArray, List.set_cons_zero, List.set_cons_succ]
              refine callG 19 (by kernel_rfl) ?_
              intro o ho; simp only [List.getElem?_toArray, List.getElem?_cons_succ, List.getElem?_cons_zero, Option.some.injEq] at ho; subst ho; intro K hK
              go_simp
              go_at_call 63
              (with_reducible refine (sTableValid_gives _ (valsS zs 0 1 m) _ _ _ RV.out.lies).mono ?_)
              rintro e w4 ⟨rfl, hb⟩
              (rw [HTO.out])
              (have BT := hidH (bThen BV.out hb))
              (have f0 : w4.cell? ⟨b, off + k * 2, none⟩ = some (.int .i64 m) := (hb.cell (p := ⟨b, off + k * 2, none⟩) (cell_blk _ _ _ d0)).trans d0)
              (have f1 : w4.cell? ⟨b, off + k * 2 + 1, none⟩ = some (.slice pa0 zs.length pc0) := (hb.cell (p := ⟨b, off + k * 2 + 1, none⟩) (cell_blk _ _ _ d1)).trans d1)
              (clear hb hHeld)
              go_wp2_with fail
              refine hK.out _ _ ?_ (fun hHeld => ?_)
              · exact ⟨f0, f1⟩
              clear hK K
              try simp only [Act.put, List.setIfInBounds_toArray, List.set_cons_zero, List.set_cons_succ]
              refine onG 20 (some 39) (v := ?v45_) (by kernel_rfl) (by kernel_rfl) (by kernel_rfl) (fun _ _ _ h => h) (by rfl) hHeld ?hy45_ ?rest45_
              case hy45_ =>
                intro o ho; simp only [List.getElem?_toArray, List.getElem?_cons_succ, List.getElem?_cons_zero, Option.some.injEq] at ho; subst ho; intro w hSw; (try dsimp only at hSw)
                go_simp
                try with_reducible rfl
              case rest45_ =>
              try simp only [Act.put, List.setIfInBounds_toArray, List.set_cons_zero, List.set_cons_succ]
              refine onG 21 (some 40) (v := ?v46_) (by kernel_rfl) (by kernel_rfl) (by kernel_rfl) (fun _ _ _ h => h) (by rfl) hHeld ?hy46_ ?rest46_
              case hy46_ =>
                intro o ho; simp only [List.getElem?_toArray, List.getElem?_cons_succ, List.getElem?_cons_zero, Option.some.injEq] at ho; subst ho; intro w hSw; (try dsimp only at hSw)
                go_simp
                try with_reducible rfl
              case rest46_ =>
              try simp only [Act.put, List.setIfInBounds_toArray, List.set_cons_zero, List.set_cons_succ]
              refine wpAnyH_done (by kernel_rfl) ?_ _
              go_wp2_with fail
              go_roundw
              case rel => exact ⟨k + 1, by omega, by go_num, HON.out, HB.out.trans (BT.out.mono HB.out.size)⟩
              case measure => simp [intOf]; omega
        · obtain rfl : k = cs.length := by omega
          have HE := hidH (planOk_of (cs := cs) (by rw [HLM.out]; exact HI.out) HOK.out)
          go_wp2_with fail
          go_ret
          rw [HE.out]
          exact ⟨rfl, HB.out⟩
    · have HIN := hidH (fun W => sIn_any (lenM cs) 1 60 false (decide_eq_false hin) W)
      rw [planOk_tot hin]
      clear hin
      go_enter Try.func35, Try.ntmps35
      go_wp2_with fail
      refine HLN.out.mono ?_; rintro e w1 ⟨rfl, hb⟩
      have B1 := hidH hb
      clear hb
      go_wp2_with fail
      refine (HIN.out _).mono ?_; rintro e w_ ⟨rfl, rfl⟩
      go_wp2_with fail
      go_ret
      exact ⟨rfl, B1.out⟩
end Go.Proofs.Ytgnoclnenhmakaa
namespace Go.Proofs.Ytgnoclnenhmakaa
set_option maxRecDepth 4000
open Go.RowKit
theorem planValid_any (v : Value) (cs : List (Int × List Int)) (w : World) (h1 : Nat) (hv : LiesSg w h1 v cs) (hn : cs.length ≤ 1048576) : Calls Try.prog 32 #[v] w (Gives (.bool (planOk cs)) w) := by
  have HV := hidH (planValues_any v cs w h1 hv hn)
  go_enter Try.func32, Try.ntmps32
  go_wp2_with fail
  refine HV.out.mono ?_; rintro e w1 ⟨u, rfl, hr, hb⟩
  have HB := hidH hb
  clear hr hb
  go_wp2_with fail
  go_ret
  exact ⟨rfl, HB.out⟩
def plenA (cs : List (Int × List Int)) : Int := if planOk cs then (planL cs).length else -1
set_option maxHeartbeats 1600000 in
theorem l5Values_any (v : Value) (cs : List (Int × List Int)) (w : World) (h1 : Nat) (hv : LiesSg w h1 v cs) (hok : planOk cs = true) : Calls Try.prog 87 #[v] w (NewRow (planL cs) w) := by
  have HV := hidH hv
  obtain ⟨a, cap, rfl, hlc, hcm⟩ := hv.len
  unfold maxLen at hcm
  obtain ⟨g1, g2, g3, g4, g5⟩ := planOk_parts hok
  have HALL := hidH g3
  have h60 : (planL cs).length ≤ 60 := by rw [planL_tot]; exact g5
  have H60 := hidH (fun k => Nat.le_trans (planL_take cs k) h60)
  clear hv hok g3 g4 g5 h60
  obtain ⟨i0, hi0, hz0, hz1, hz2⟩ := info_parts infoInt
  have HO := hidH (World.ownsRow_made (base := w.heap.size) (e := 3) (size := 1) w #[] 0 (Nat.le_refl _) (Nat.zero_le _) rfl)
  go_enter Try.func87, Try.ntmps87
  go_wp2_with fail
  go_loopw [3, 4] (fun o i wr => ∃ (k : Nat) (ov : Value), k ≤ cs.length ∧ i = .int .i64 k ∧ ov = o ∧ wr.ownsRow w.heap.size 3 1 ov (planL (cs.take k)).length (ints (planL (cs.take k))) ∧ Below w.heap.size w wr) (fun _ i _ => cs.length - (intOf i).toNat)
  case atStart => exact ⟨0, _, Nat.zero_le _, rfl, rfl, HO.out, (Below.refl _ _).alloc (Nat.le_refl _) _⟩
  case round =>
    obtain ⟨k, ov, hk, rfl, rfl, hown, hb⟩ := hrel
    have HW := hidH hown
    have HB := hidH hb
    clear hown hb
    by_cases hlt : k < cs.length
    · obtain ⟨b, off, cc1, e, _, _, _, hcl⟩ := HV.out.addr (by omega)
      injection e with e1 e2 e3
      subst e1; subst e3
      obtain ⟨x, hx⟩ : ∃ x, cs[k]? = some x := ⟨cs[k], List.getElem?_eq_getElem hlt⟩
      obtain ⟨c, zs⟩ := x
      obtain ⟨p, q0, q1, q2⟩ := hcl k c zs hx
      have c0 : wr.cell? ⟨b, off + k * 2, none⟩ = some (.int .i64 c) := by rw [HB.out.cell (p := ⟨b, off + k * 2, none⟩) (cell_blk _ _ _ q0)]; exact q0
      have c1 : wr.cell? ⟨b, off + k * 2 + 1, none⟩ = some p := by rw [HB.out.cell (p := ⟨b, off + k * 2 + 1, none⟩) (cell_blk _ _ _ q1)]; exact q1
      have HP := hidH (q2.below HB.out)
      have HX := hidH hx
      obtain ⟨pa0, pc0, rfl⟩ := q2.some
      clear hcl q0 q1 q2 hx
      have HSN := hidH (planL_snoc cs k (c, zs) HX.out)
      have h60 : (planL (cs.take k)).length ≤ 60 := H60.out k
      have ⟨hp, d1, d2, ht⟩ := segOk_parts (List.all_eq_true.1 HALL.out (c, zs) (List.mem_of_getElem? HX.out))
      have d1 : (1 : Int) ≤ c := d1
      have d2 : c ≤ 60 := d2
      have hp : polyOk zs = true := hp
      obtain ⟨m, rfl⟩ := Int.eq_ofNat_of_zero_le (show 0 ≤ c by omega)
      have HSM := hidH (polyOk_small zs hp).2
      have HVV := hidH (fun W (hl : Lies W 0 h1 (.slice pa0 zs.length pc0) zs) => sValues_any (.slice pa0 zs.length pc0) zs 0 1 m W 0 h1 hl HSM.out (by omega) (by omega) (fun i hi => by omega))
      have HVE := hidH (show segV ((m : Int), zs) = valsS zs 0 1 m by rw [valsS_one]; rfl)
      have hvl : (valsS zs 0 1 m).length = m := by simp [valsS]
      generalize hpl : planL (cs.take k) = pl at *
      clear hpl ht hp
      generalize hvv : valsS zs 0 1 m = vs at *
      clear hvv
      have hv1 : 1 ≤ vs.length ∧ vs.length ≤ 60 := by omega
      obtain ⟨hv1, hv60⟩ := hv1
      clear hvl
      go_wp2_with fail
      refine wp_region_held_drew (S := fun w' => w'.cell? ⟨b, off + k * 2, none⟩ = some (.int .i64 m) ∧ w'.cell? ⟨b, off + k * 2 + 1, none⟩ = some (.slice pa0 zs.length pc0)) (by kernel_rfl) ⟨c0, c1⟩ (fun hHeld => ?_)
      try dsimp only
      refine onG 0 (some 12) (v := ?v1_) (by kernel_rfl) (by kernel_rfl) (by kernel_rfl) (fun _ _ _ h => h) (by rfl) hHeld ?hy1_ ?rest1_
      case hy1_ =>
        intro o ho; simp only [List.getElem?_toArray, List.getElem?_cons_zero, Option.some.injEq] at ho; subst ho; intro w hSw; (try dsimp only at hSw)
        go_simp
        try with_reducible rfl
      case rest1_ =>
      try simp only [Act.put, List.setIfInBounds_toArray, List.set_cons_zero, List.set_cons_succ]
      refine onG 1 (some 13) (v := ?v2_) (by kernel_rfl) (by kernel_rfl) (by kernel_rfl) (fun _ _ _ h => h) (by rfl) hHeld ?hy2_ ?rest2_
      case hy2_ =>
        intro o ho; simp only [List.getElem?_toArray, List.getElem?_cons_succ, List.getElem?_cons_zero, Option.some.injEq] at ho; subst ho; intro w hSw; (try dsimp only at hSw)
        go_simp
        try with_reducible rfl
      case rest2_ =>
      try simp only [Act.put, List.setIfInBounds_toArray, List.set_cons_zero, List.set_cons_succ]
      refine onG 2 (some 14) (v := ?v3_) (by kernel_rfl) (by kernel_rfl) (by kernel_rfl) (fun _ _ _ h => h) (by rfl) hHeld ?hy3_ ?rest3_
      case hy3_ =>
        intro o ho; simp only [List.getElem?_toArray, List.getElem?_cons_succ, List.getElem?_cons_zero, Option.some.injEq] at ho; subst ho; intro w hSw; (try dsimp only at hSw)
        go_simp
        try with_reducible rfl
      case rest3_ =>
      try simp only [Act.put, List.setIfInBounds_toArray, List.set_cons_zero, List.set_cons_succ]
      refine onG 3 (some 15) (v := ?v4_) (by kernel_rfl) (by kernel_rfl) (by kernel_rfl) (fun _ _ _ h => h) (by rfl) hHeld ?hy4_ ?rest4_
      case hy4_ =>
        intro o ho; simp only [List.getElem?_toArray, List.getElem?_cons_succ, List.getElem?_cons_zero, Option.some.injEq] at ho; subst ho; intro w hSw; (try dsimp only at hSw)
        go_simp
        try with_reducible rfl
      case rest4_ =>
      try simp only [Act.put, List.setIfInBounds_toArray, List.set_cons_zero, List.set_cons_succ]
      refine onG 4 (some 16) (v := ?v5_) (by kernel_rfl) (by kernel_rfl) (by kernel_rfl) (fun _ _ _ h => h) (by rfl) hHeld ?hy5_ ?rest5_
      case hy5_ =>
        intro o ho; simp only [List.getElem?_toArray, List.getElem?_cons_succ, List.getElem?_cons_zero, Option.some.injEq] at ho; subst ho; intro w hSw; (try dsimp only at hSw)
        go_simp
        try with_reducible rfl
      case rest5_ =>
      try simp only [Act.put, List.setIfInBounds_toArray, List.set_cons_zero, List.set_cons_succ]
      refine onG 5 (some 17) (v := ?v6_) (by kernel_rfl) (by kernel_rfl) (by kernel_rfl) (fun _ _ _ h => h) (by rfl) hHeld ?hy6_ ?rest6_
      case hy6_ =>
        intro o ho; simp only [List.getElem?_toArray, List.getElem?_cons_succ, List.getElem?_cons_zero, Option.some.injEq] at ho; subst ho; intro w hSw; (try dsimp only at hSw)
        go_simp
        try with_reducible rfl
      case rest6_ =>
      try simp only [Act.put, List.setIfInBounds_toArray, List.set_cons_zero, List.set_cons_succ]
      refine onG 6 (some 18) (v := ?v7_) (by kernel_rfl) (by kernel_rfl) (by kernel_rfl) (fun _ _ _ h => h) (by rfl) hHeld ?hy7_ ?rest7_
      case hy7_ =>
        intro o ho; simp only [List.getElem?_toArray, List.getElem?_cons_succ, List.getElem?_cons_zero, Option.some.injEq] at ho; subst ho; intro w hSw; (try dsimp only at hSw)
        go_simp
        try with_reducible rfl
      case rest7_ =>
      try simp only [Act.put, List.setIfInBounds_toArray, List.set_cons_zero, List.set_cons_succ]
      refine onG 7 (some 19) (v := ?v8_) (by kernel_rfl) (by kernel_rfl) (by kernel_rfl) (fun _ _ _ h => h) (by rfl) hHeld ?hy8_ ?rest8_
      case hy8_ =>
        intro o ho; simp only [List.getElem?_toArray, List.getElem?_cons_succ, List.getElem?_cons_zero, Option.some.injEq] at ho; subst ho; intro w hSw; (try dsimp only at hSw)
        go_simp
        try with_reducible rfl
      case rest8_ =>
      try simp only [Act.put, List.setIfInBounds_toArray, List.set_cons_zero, List.set_cons_succ]
      refine onG 8 (some 20) (v := ?v9_) (by kernel_rfl) (by kernel_rfl) (by kernel_rfl) (fun _ _ _ h => h) (by rfl) hHeld ?hy9_ ?rest9_
      case hy9_ =>
        intro o ho; simp only [List.getElem?_toArray, List.getElem?_cons_succ, List.getElem?_cons_zero, Option.some.injEq] at ho; subst ho; intro w hSw; (try dsimp only at hSw)
        go_simp
        try with_reducible rfl
      case rest9_ =>
      try simp only [Act.put, List.setIfInBounds_toArray, List.set_cons_zero, List.set_cons_succ]
      refine onG 9 (some 21) (v := ?v10_) (by kernel_rfl) (by kernel_rfl) (by kernel_rfl) (fun _ _ _ h => h) (by rfl) hHeld ?hy10_ ?rest10_
      case hy10_ =>
        intro o ho; simp only [List.getElem?_toArray, List.getElem?_cons_succ, List.getElem?_cons_zero, Option.some.injEq] at ho; subst ho; intro w hSw; (try dsimp only at hSw)
        go_simp
        try with_reducible rfl
      case rest10_ =>
      try simp only [Act.put, List.setIfInBounds_toArray, List.set_cons_zero, List.set_cons_succ]
      refine onG 10 (some 22) (v := ?v11_) (by kernel_rfl) (by kernel_rfl) (by kernel_rfl) (fun _ _ _ h => h) (by rfl) hHeld ?hy11_ ?rest11_
      case hy11_ =>
        intro o ho; simp only [List.getElem?_toArray, List.getElem?_cons_succ, List.getElem?_cons_zero, Option.some.injEq] at ho; subst ho; intro w hSw; (try dsimp only at hSw)
        go_simp
        try with_reducible rfl
      case rest11_ =>
      try simp only [Act.put, List.setIfInBounds_toArray, List.set_cons_zero, List.set_cons_succ]
      refine callG 11 (by kernel_rfl) ?_
      intro o ho; simp only [List.getElem?_toArray, List.getElem?_cons_succ, List.getElem?_cons_zero, Option.some.injEq] at ho; subst ho; intro K hK
      go_simp
      go_at_call 64
      (with_reducible refine (HVV.out _ (HP.out.below (Below.refl _ _).drew)).mono ?_)
      rintro e w5 ⟨u, rfl, hr, hb⟩
      (have RV := hidH hr)
      (have BV := hidH (show Below wr.heap.size wr w5 from ((Below.refl wr.heap.size wr).drew).trans hb))
      (have d0 : w5.cell? ⟨b, off + k * 2, none⟩ = some (.int .i64 m) := (BV.out.cell (p := ⟨b, off + k * 2, none⟩) (cell_blk _ _ _ c0)).trans c0)
      (have d1 : w5.cell? ⟨b, off + k * 2 + 1, none⟩ = some (.slice pa0 zs.length pc0) := (BV.out.cell (p := ⟨b, off + k * 2 + 1, none⟩) (cell_blk _ _ _ c1)).trans c1)
      (have W5 := hidH (owns_below HW.out BV.out))
      (have B5 := hidH (bThen HB.out BV.out))
      (have hs5 := B5.out.size)
      (obtain ⟨pb, po, pc, rfl, hpl1, hpm1, _, _, _, hpcell⟩ := hr.lies.addr (by omega))
      (unfold maxLen at hpm1)
      (have HC := hidH (cells_map hpcell))
      (have HOC := hidH (oneCells vs))
      (clear hr hb hpcell hHeld)
      go_wp2_with fail
      refine hK.out _ _ ?_ (fun hHeld => ?_)
      · exact ⟨d0, d1⟩
      clear hK K
      try simp only [Act.put, List.setIfInBounds_toArray, List.set_cons_zero, List.set_cons_succ]
      refine callG 12 (by kernel_rfl) ?_
      intro o ho; simp only [List.getElem?_toArray, List.getElem?_cons_succ, List.getElem?_cons_zero, Option.some.injEq] at ho; subst ho; intro K hK
      refine step_append_lies _ (by rfl) _ _ _ (by rfl) w.heap.size 3 i0 _ 1 8 Try.underlying28 hi0 hz0 hz1 hz2 rfl (by omega) ov pl.length (ints pl) (by rfl) W5.out ⟨pb, po, none⟩ vs.length pc (ints vs) (by rfl) ?qc1 ?qc2 HOC.out (by omega) ?qc4 ?qc5 hs5 _ rfl ?_
      case qc1 => rw [ints_length, Nat.mul_one]
      case qc2 => exact HC.out _ (Below.refl _ _)
      case qc4 => unfold maxLen; omega
      case qc5 => omega
      intro g7 cap7 w7 hown1 hgrow _ _
      have W7 := hidH hown1
      have B7 := hidH ((B5.out).grown hgrow hs5 fun g hg => (W5.out.lt g hg).1)
      clear hown1 hgrow
      refine hK.out _ _ ?_ (fun hHeld => ?_)
      · exact ⟨(B7.out.cell (p := ⟨b, off + k * 2, none⟩) (by assumption)).trans ((HB.out.cell (p := ⟨b, off + k * 2, none⟩) (by assumption)).symm.trans c0), (B7.out.cell (p := ⟨b, off + k * 2 + 1, none⟩) (by assumption)).trans ((HB.out.cell (p := ⟨b, off + k * 2 + 1, none⟩) (by assumption)).symm.trans c1)⟩
      clear hK K
      try simp only [Act.put, List.setIfInBounds_toArray, List.set_cons_zero, List.set_cons_succ]
      refine onG 13 (some 3) (v := ?v12_) (by kernel_rfl) (by kernel_rfl) (by kernel_rfl) (fun _ _ _ h => h) (by rfl) hHeld ?hy12_ ?rest12_
      case hy12_ =>
        intro o ho; simp only [List.getElem?_toArray, List.getElem?_cons_succ, List.getElem?_cons_zero, Option.some.injEq] at ho; subst ho; intro w hSw; (try dsimp only at hSw)
        go_simp
        try with_reducible rfl
      case rest12_ =>
      try simp only [Act.put, List.setIfInBounds_toArray, List.set_cons_zero, List.set_cons_succ]
      refine wpAnyH_done (by kernel_rfl) ?_ _
      go_wp2_with fail
      go_roundw
      case rel =>
        refine ⟨k + 1, _, by omega, by go_num, rfl, ?_, B7.out⟩
        rw [HSN.out, HVE.out, ints_append, List.length_append]
        exact W7.out
      case measure => simp [intOf]; omega
    · obtain rfl : k = cs.length := by omega
      have h := HW.out
      rw [List.take_length] at h
      have HRW := hidH (row_of_owns h).1
      clear h
      go_wp2_with fail
      go_ret
      exact ⟨_, rfl, HRW.out, HB.out⟩
end Go.Proofs.Ytgnoclnenhmakaa
namespace Go.Proofs.Ytgnoclnenhmakaa
set_option maxRecDepth 4000
open Go.RowKit
/-- The greatest degree of the first k segments. -/
def degM (cs : List (Int × List Int)) : Nat → Int
  | 0 => -1
  | k + 1 => max (degM cs k) (degL (cs.getD k (0, [])).2)
def pdegA (cs : List (Int × List Int)) : Int := if planOk cs then degM cs cs.length else -2
theorem degM_next (cs : List (Int × List Int)) (k : Nat) (s : Int × List Int) (h : cs[k]? = some s) : degM cs (k + 1) = max (degM cs k) (degL s.2) := by
  rw [degM, List.getD_eq_getElem?_getD, h]; rfl
def costOk (x : Int) : Bool := decide ((0 : Int) ≤ x ∧ x ≤ 1000)
/-- The cost of the first k segments. -/
def costM (cs : List (Int × List Int)) (s c : Int) : Nat → Int
  | 0 => 0
  | k + 1 => costM cs s c k + (s + c * ((cs.getD k (0, [])).2.length : Int))
def pcostB (cs : List (Int × List Int)) (s c : Int) : Bool := planOk cs && (costOk s && costOk c)
def pcostA (cs : List (Int × List Int)) (s c : Int) : Int := if pcostB cs s c then costM cs s c cs.length else -1
theorem costM_next (cs : List (Int × List Int)) (s c : Int) (k : Nat) (x : Int × List Int) (h : cs[k]? = some x) : costM cs s c (k + 1) = costM cs s c k + (s + c * (x.2.length : Int)) := by
  rw [costM, List.getD_eq_getElem?_getD, h]; rfl
theorem cost_prod (c : Int) (n : Nat) (h : costOk c = true) (hn : n ≤ 7) : 0 ≤ c * (n : Int) ∧ c * (n : Int) ≤ 7000 := by
  have ⟨a, b⟩ := of_decide_eq_true h
  refine ⟨Int.mul_nonneg a (by omega), ?_⟩
  have : c * (n : Int) ≤ 1000 * 7 := Int.mul_le_mul b (by omega) (by omega) (by omega)
  omega
theorem costValid_any (c : Int) (w : World) : Calls Try.prog 33 #[.int .i64 c] w fun e w' => e = .returned (.bool (costOk c)) ∧ w' = w := by
  cases h : costOk c
  · have h := of_decide_eq_false h
    by_cases a : c < 0
    · clear h
      go_enter Try.func33, Try.ntmps33
      go_wp2
      go_ret
      exact ⟨rfl, rfl⟩
    · have b : 1000 < c := by omega
      have d : decide (c ≤ 1000) = false := decide_eq_false (by omega)
      clear h
      go_enter Try.func33, Try.ntmps33
      go_wp2
      go_ret
      exact ⟨rfl, rfl⟩
  · have ⟨a, b⟩ := of_decide_eq_true h
    have d : decide (c ≤ 1000) = true := decide_eq_true b
    clear h
    go_enter Try.func33, Try.ntmps33
    go_wp2
    go_ret
    exact ⟨rfl, rfl⟩
theorem l5Cost_any (s c : Int) (w : World) : Calls Try.prog 36 #[.int .i64 s, .int .i64 c] w fun e w' => e = .returned (.bool (costOk s && costOk c)) ∧ w' = w := by
  have H1 := hidH (fun W => sIn_any s 0 1000 (costOk s) rfl W)
  have H2 := hidH (fun W => sIn_any c 0 1000 (costOk c) rfl W)
  generalize costOk s = b1 at *
  generalize costOk c = b2 at *
  cases b1
  · go_enter Try.func36, Try.ntmps36
    go_wp2_with fail
    refine (H1.out _).mono ?_; rintro e w1 ⟨rfl, rfl⟩
    go_wp2_with fail
    go_ret
    exact ⟨rfl, rfl⟩
  · go_enter Try.func36, Try.ntmps36
    go_wp2_with fail
    refine (H1.out _).mono ?_; rintro e w1 ⟨rfl, rfl⟩
    go_wp2_with fail
    refine (H2.out _).mono ?_; rintro e w1 ⟨rfl, rfl⟩
    go_wp2_with fail
    go_ret
    exact ⟨rfl, rfl⟩
theorem segCost_any (t : Int) (a : Option Addr) (n cap : Nat) (s c : Int) (w : World) (hs : costOk s = true) (hc : costOk c = true) (hn : n ≤ 7) : Calls Try.prog 34 #[.agg #[.int .i64 t, .slice a n cap], .int .i64 s, .int .i64 c] w (Gives (.int .i64 (s + c * (n : Int))) w) := by
  have ⟨p1, p2⟩ := cost_prod c n hc hn
  have ⟨s1, s2⟩ := of_decide_eq_true hs
  obtain ⟨P, hP⟩ : ∃ P, P = c * (n : Int) := ⟨_, rfl⟩
  rw [← hP] at p1 p2 ⊢
  have hw1 : wrap64 (c * (n : Int)) = P := by rw [← hP]; exact IntWalk.wrap64_in _ (by omega)
  have hw2 : IntKind.i64.wrap (c * (n : Int)) = P := by rw [← hP]; exact IntWalk.i64_in _ (by omega)
  have BB := hidH (bMore (Below.refl w.heap.size w) (.cells #[.int .i64 t, .slice a n cap] 39))
  clear hP hs hc
  go_enter Try.func34, Try.ntmps34
  go_wp2_with fail
  go_ret
  exact ⟨rfl, BB.out⟩
set_option maxHeartbeats 1600000 in
theorem planDegree_any (v : Value) (cs : List (Int × List Int)) (w : World) (h1 : Nat) (hv : LiesSg w h1 v cs) (hn : cs.length ≤ 1048576) : Calls Try.prog 20 #[v] w (Gives (.int .i64 (pdegA cs)) w) := by
  have HV := hidH hv
  have HPV := hidH (planValid_any v cs w h1 hv hn)
  unfold pdegA
  obtain ⟨a, cap, rfl, hlc, hcm⟩ := hv.len
  unfold maxLen at hcm
  clear hv
  cases hok : planOk cs
  · rw [hok] at HPV
    clear hok
    go_enter Try.func20, Try.ntmps20
    go_wp2_with fail
    refine HPV.out.mono ?_; rintro e w1 ⟨rfl, hb⟩
    have HB := hidH hb
    clear hb
    go_wp2_with fail
    go_ret
    exact ⟨rfl, HB.out⟩
  · rw [hok] at HPV
    clear hok
    go_enter Try.func20, Try.ntmps20
    go_wp2_with fail
    refine HPV.out.mono ?_; rintro e w1 ⟨rfl, hb⟩
    have HB1 := hidH hb
    clear hb
    go_wp2_with fail
    go_loopw [3, 11] (fun m i wr => ∃ k : Nat, k ≤ cs.length ∧ i = .int .i64 k ∧ m = .int .i64 (degM cs k) ∧ Below w.heap.size w wr) (fun _ i _ => cs.length - (intOf i).toNat)
    case atStart => exact ⟨0, Nat.zero_le _, rfl, rfl, HB1.out⟩
    case round =>
      obtain ⟨k, hk, rfl, rfl, hb⟩ := hrel
      have HB := hidH hb
      clear hb
      by_cases hlt : k < cs.length
      · obtain ⟨b, off, cc1, e, _, _, _, hcl⟩ := HV.out.addr (by omega)
        injection e with e1 e2 e3
        subst e1; subst e3
        obtain ⟨x, hx⟩ : ∃ x, cs[k]? = some x := ⟨cs[k], List.getElem?_eq_getElem hlt⟩
        obtain ⟨c, zs⟩ := x
        obtain ⟨p, q0, q1, q2⟩ := hcl k c zs hx
        have c0 : wr.cell? ⟨b, off + k * 2, none⟩ = some (.int .i64 c) := by rw [HB.out.cell (p := ⟨b, off + k * 2, none⟩) (cell_blk _ _ _ q0)]; exact q0
        have c1 : wr.cell? ⟨b, off + k * 2 + 1, none⟩ = some p := by rw [HB.out.cell (p := ⟨b, off + k * 2 + 1, none⟩) (cell_blk _ _ _ q1)]; exact q1
        have HP := hidH (q2.below HB.out)
        have HX := hidH hx
        obtain ⟨pa0, pc0, rfl⟩ := q2.some
        clear hcl q0 q1 q2 hx
        have HDN := hidH (degM_next cs k (c, zs) HX.out)
        generalize degM cs k = g at *
        have HDG := hidH (fun W (hl : Lies W 0 h1 (.slice pa0 zs.length pc0) zs) => degree_any _ zs W _ _ hl)
        have HD2 := hidH (show degL ((c, zs) : Int × List Int).2 = degL zs from rfl)
        rw [HD2.out] at HDN
        generalize degL zs = d at *
        go_wp2_with fail
        have BX := bMore (Below.refl wr.heap.size wr) (.cells #[.int .i64 c, .slice pa0 zs.length pc0] 39)
        refine (HDG.out _ (HP.out.below BX)).mono ?_; rintro e w5 ⟨rfl, hb⟩
        have B5 := hidH (bThen HB.out (bThen BX hb))
        clear hb BX c0 c1
        by_cases hgd : g ≤ d
        · have hmx : max g d = d := by omega
          rw [hmx] at HDN
          go_wp2_with fail
          go_roundw
          case rel => exact ⟨k + 1, by omega, by go_num, by rw [HDN.out]; all_goals (congr 1; split <;> omega), B5.out⟩
          case measure => simp [intOf]; omega
        · have hmx : max g d = g := by omega
          rw [hmx] at HDN
          have hgd2 : ¬ g ≤ d := hgd
          have hgd3 : d ≤ g := by omega
          go_wp2_with fail
          go_roundw
          case rel => exact ⟨k + 1, by omega, by go_num, by rw [HDN.out]; all_goals (congr 1; split <;> omega), B5.out⟩
          case measure => simp [intOf]; omega
      · obtain rfl : k = cs.length := by omega
        go_wp2_with fail
        go_ret
        exact ⟨rfl, HB.out⟩
theorem planCost_no (v : Value) (cs : List (Int × List Int)) (w : World) (h1 : Nat) (hv : LiesSg w h1 v cs) (hn : cs.length ≤ 1048576) (s c : Int) (h : pcostB cs s c = false) : Calls Try.prog 9 #[v, .int .i64 s, .int .i64 c] w (Gives (.int .i64 (-1)) w) := by
  have HPV := hidH (planValid_any v cs w h1 hv hn)
  unfold pcostB at h
  obtain ⟨a, cap, rfl, hlc, hcm⟩ := hv.len
  clear hv
  have H1 := hidH (fun W => costValid_any s W)
  have H2 := hidH (fun W => costValid_any c W)
  generalize planOk cs = b0 at *
  generalize costOk s = b1 at *
  generalize costOk c = b2 at *
  cases b0
  · clear h
    go_enter Try.func9, Try.ntmps9
    go_wp2_with fail
    refine HPV.out.mono ?_; rintro e w1 ⟨rfl, hb⟩
    have HB1 := hidH hb
    clear hb
    go_wp2_with fail
    go_ret
    exact ⟨rfl, HB1.out⟩
  · cases b1
    · clear h
      go_enter Try.func9, Try.ntmps9
      go_wp2_with fail
      refine HPV.out.mono ?_; rintro e w1 ⟨rfl, hb⟩
      have HB1 := hidH hb
      clear hb
      go_wp2_with fail
      refine (H1.out _).mono ?_; rintro e w_ ⟨rfl, rfl⟩
      go_wp2_with fail
      go_ret
      exact ⟨rfl, HB1.out⟩
    · obtain rfl : b2 = false := by simpa using h
      clear h
      go_enter Try.func9, Try.ntmps9
      go_wp2_with fail
      refine HPV.out.mono ?_; rintro e w1 ⟨rfl, hb⟩
      have HB1 := hidH hb
      clear hb
      go_wp2_with fail
      refine (H1.out _).mono ?_; rintro e w_ ⟨rfl, rfl⟩
      go_wp2_with fail
      refine (H2.out _).mono ?_; rintro e w_ ⟨rfl, rfl⟩
      go_wp2_with fail
      go_ret
      exact ⟨rfl, HB1.out⟩
set_option maxHeartbeats 1600000 in
theorem planCost_yes (v : Value) (cs : List (Int × List Int)) (w : World) (h1 : Nat) (hv : LiesSg w h1 v cs) (hn : cs.length ≤ 1048576) (s c : Int) (hok : planOk cs = true) (hcs : costOk s = true) (hcc : costOk c = true) : Calls Try.prog 9 #[v, .int .i64 s, .int .i64 c] w (Gives (.int .i64 (costM cs s c cs.length)) w) := by
  have HV := hidH hv
  have HPV := hidH (planValid_any v cs w h1 hv hn)
  rw [hok] at HPV
  have HSOK := hidH (planOk_parts hok).2.2.1
  have hl60 := (planOk_parts hok).2.1
  obtain ⟨a, cap, rfl, hlc, hcm⟩ := hv.len
  unfold maxLen at hcm
  have H1 := hidH (fun W => costValid_any s W)
  have H2 := hidH (fun W => costValid_any c W)
  rw [hcs] at H1
  rw [hcc] at H2
  have HCS := hidH hcs
  have HCC := hidH hcc
  have ⟨s1, s2⟩ := of_decide_eq_true hcs
  clear hv hok hcs hcc
  go_enter Try.func9, Try.ntmps9
  go_wp2_with fail
  refine HPV.out.mono ?_; rintro e w1 ⟨rfl, hb⟩
  have HB1 := hidH hb
  clear hb
  go_wp2_with fail
  refine (H1.out _).mono ?_; rintro e w_ ⟨rfl, rfl⟩
  go_wp2_with fail
  refine (H2.out _).mono ?_; rintro e w_ ⟨rfl, rfl⟩
  go_wp2_with fail
  go_loopw [7, 25] (fun m i wr => ∃ k : Nat, k ≤ cs.length ∧ i = .int .i64 k ∧ m = .int .i64 (costM cs s c k) ∧ 0 ≤ costM cs s c k ∧ costM cs s c k ≤ 8000 * k ∧ Below w.heap.size w wr) (fun _ i _ => cs.length - (intOf i).toNat)
  case atStart => exact ⟨0, Nat.zero_le _, rfl, rfl, Int.le_refl _, by simp [costM], HB1.out⟩
  case round =>
    obtain ⟨k, hk, rfl, rfl, g0, g1, hb⟩ := hrel
    have HB := hidH hb
    clear hb
    by_cases hlt : k < cs.length
    · obtain ⟨b, off, cc1, e, _, _, _, hcl⟩ := HV.out.addr (by omega)
      injection e with e1 e2 e3
      subst e1; subst e3
      obtain ⟨x, hx⟩ : ∃ x, cs[k]? = some x := ⟨cs[k], List.getElem?_eq_getElem hlt⟩
      obtain ⟨t, zs⟩ := x
      obtain ⟨p, q0, q1, q2⟩ := hcl k t zs hx
      have c0 : wr.cell? ⟨b, off + k * 2, none⟩ = some (.int .i64 t) := by rw [HB.out.cell (p := ⟨b, off + k * 2, none⟩) (cell_blk _ _ _ q0)]; exact q0
      have c1 : wr.cell? ⟨b, off + k * 2 + 1, none⟩ = some p := by rw [HB.out.cell (p := ⟨b, off + k * 2 + 1, none⟩) (cell_blk _ _ _ q1)]; exact q1
      have HP := hidH (q2.below HB.out)
      have HX := hidH hx
      obtain ⟨pa0, pc0, rfl⟩ := q2.some
      clear hcl q0 q1 q2 hx
      have HDN := hidH (costM_next cs s c k (t, zs) HX.out)
      have h7 : zs.length ≤ 7 := (polyOk_small zs (segOk_parts (List.all_eq_true.1 HSOK.out (t, zs) (List.mem_of_getElem? HX.out))).1).2.1
      have hl2 : (((t, zs) : Int × List Int).2.length : Int) = (zs.length : Int) := rfl
      rw [hl2] at HDN
      have ⟨p1, p2⟩ := cost_prod c zs.length HCC.out h7
      generalize costM cs s c k = g at *
      have HSC := hidH (fun W => segCost_any t pa0 zs.length pc0 s c W HCS.out HCC.out h7)
      generalize hsc : s + c * (zs.length : Int) = sc at *
      have hsc1 : 0 ≤ sc ∧ sc ≤ 8000 := by omega
      obtain ⟨hsc1, hsc2⟩ := hsc1
      clear hsc hl2
      go_wp2_with fail
      have BX := bMore (Below.refl wr.heap.size wr) (.cells #[.int .i64 t, .slice pa0 zs.length pc0] 39)
      refine (HSC.out _).mono ?_; rintro e w5 ⟨rfl, hb⟩
      have B5 := hidH (bThen HB.out (bThen BX hb))
      clear hb BX c0 c1
      go_wp2_with fail
      go_roundw
      case rel => exact ⟨k + 1, by omega, by go_num, by rw [HDN.out], by rw [HDN.out]; omega, by rw [HDN.out]; omega, B5.out⟩
      case measure => simp [intOf]; omega
    · obtain rfl : k = cs.length := by omega
      go_wp2_with fail
      go_ret
      exact ⟨rfl, HB.out⟩
theorem planCost_any (v : Value) (cs : List (Int × List Int)) (w : World) (h1 : Nat) (hv : LiesSg w h1 v cs) (hn : cs.length ≤ 1048576) (s c : Int) : Calls Try.prog 9 #[v, .int .i64 s, .int .i64 c] w (Gives (.int .i64 (pcostA cs s c)) w) := by
  unfold pcostA
  cases h : pcostB cs s c
  · exact planCost_no v cs w h1 hv hn s c h
  · have h' := h
    simp only [pcostB, Bool.and_eq_true] at h'
    exact planCost_yes v cs w h1 hv hn s c h'.1 h'.2.1 h'.2.2
theorem sPlanCost_no (v : Value) (cs : List (Int × List Int)) (w : World) (h1 : Nat) (hv : LiesSg w h1 v cs) (hn : cs.length ≤ 1048576) (s c : Int) (h : pcostB cs s c = false) : Calls Try.prog 10 #[v, .int .i64 s, .int .i64 c] w (Gives (.int .i64 (-1)) w) := by
  have HPV := hidH (sPlanValid_any v cs w h1 hv hn)
  unfold pcostB at h
  obtain ⟨a, cap, rfl, hlc, hcm⟩ := hv.len
  clear hv
  have H1 := hidH (fun W => l5Cost_any s c W)
  generalize planOk cs = b0 at *
  generalize (costOk s && costOk c) = b1 at *
  cases b0
  · clear h
    go_enter Try.func10, Try.ntmps10
    go_wp2_with fail
    refine HPV.out.mono ?_; rintro e w1 ⟨rfl, hb⟩
    have HB1 := hidH hb
    clear hb
    go_wp2_with fail
    go_ret
    exact ⟨rfl, HB1.out⟩
  · obtain rfl : b1 = false := by simpa using h
    clear h
    go_enter Try.func10, Try.ntmps10
    go_wp2_with fail
    refine HPV.out.mono ?_; rintro e w1 ⟨rfl, hb⟩
    have HB1 := hidH hb
    clear hb
    go_wp2_with fail
    refine (H1.out _).mono ?_; rintro e w_ ⟨rfl, rfl⟩
    go_wp2_with fail
    go_ret
    exact ⟨rfl, HB1.out⟩
set_option maxHeartbeats 1600000 in
theorem sPlanCost_yes (v : Value) (cs : List (Int × List Int)) (w : World) (h1 : Nat) (hv : LiesSg w h1 v cs) (hn : cs.length ≤ 1048576) (s c : Int) (hok : planOk cs = true) (hcs : costOk s = true) (hcc : costOk c = true) : Calls Try.prog 10 #[v, .int .i64 s, .int .i64 c] w (Gives (.int .i64 (costM cs s c cs.length)) w) := by
  have HV := hidH hv
  have HPV := hidH (sPlanValid_any v cs w h1 hv hn)
  rw [hok] at HPV
  have HSOK := hidH (planOk_parts hok).2.2.1
  have hl60 := (planOk_parts hok).2.1
  obtain ⟨a, cap, rfl, hlc, hcm⟩ := hv.len
  unfold maxLen at hcm
  have H1 := hidH (fun W => l5Cost_any s c W)
  rw [hcs, hcc] at H1
  have HCS := hidH hcs
  have HCC := hidH hcc
  have ⟨s1, s2⟩ := of_decide_eq_true hcs
  clear hv hok hcs hcc
  go_enter Try.func10, Try.ntmps10
  go_wp2_with fail
  refine HPV.out.mono ?_; rintro e w1 ⟨rfl, hb⟩
  have HB1 := hidH hb
  clear hb
  go_wp2_with fail
  refine (H1.out _).mono ?_; rintro e w_ ⟨rfl, rfl⟩
  go_wp2_with fail
  go_loopw [7, 8] (fun m i wr => ∃ k : Nat, k ≤ cs.length ∧ i = .int .i64 k ∧ m = .int .i64 (costM cs s c k) ∧ 0 ≤ costM cs s c k ∧ costM cs s c k ≤ 8000 * k ∧ Below w.heap.size w wr) (fun _ i _ => cs.length - (intOf i).toNat)
  case atStart => exact ⟨0, Nat.zero_le _, rfl, rfl, Int.le_refl _, by simp [costM], HB1.out⟩
  case round =>
    obtain ⟨k, hk, rfl, rfl, g0, g1, hb⟩ := hrel
    have HB := hidH hb
    clear hb
    by_cases hlt : k < cs.length
    · obtain ⟨b, off, cc1, e, _, _, _, hcl⟩ := HV.out.addr (by omega)
      injection e with e1 e2 e3
      subst e1; subst e3
      obtain ⟨x, hx⟩ : ∃ x, cs[k]? = some x := ⟨cs[k], List.getElem?_eq_getElem hlt⟩
      obtain ⟨t, zs⟩ := x
      obtain ⟨p, q0, q1, q2⟩ := hcl k t zs hx
      have c0 : wr.cell? ⟨b, off + k * 2, none⟩ = some (.int .i64 t) := by rw [HB.out.cell (p := ⟨b, off + k * 2, none⟩) (cell_blk _ _ _ q0)]; exact q0
      have c1 : wr.cell? ⟨b, off + k * 2 + 1, none⟩ = some p := by rw [HB.out.cell (p := ⟨b, off + k * 2 + 1, none⟩) (cell_blk _ _ _ q1)]; exact q1
      have HP := hidH (q2.below HB.out)
      have HX := hidH hx
      obtain ⟨pa0, pc0, rfl⟩ := q2.some
      clear hcl q0 q1 q2 hx
      have HDN := hidH (costM_next cs s c k (t, zs) HX.out)
      have h7 : zs.length ≤ 7 := (polyOk_small zs (segOk_parts (List.all_eq_true.1 HSOK.out (t, zs) (List.mem_of_getElem? HX.out))).1).2.1
      have hl2 : (((t, zs) : Int × List Int).2.length : Int) = (zs.length : Int) := rfl
      rw [hl2] at HDN
      have ⟨p1, p2⟩ := cost_prod c zs.length HCC.out h7
      generalize costM cs s c k = g at *
      obtain ⟨P, hP⟩ : ∃ P, P = c * (zs.length : Int) := ⟨_, rfl⟩
      rw [← hP] at p1 p2 HDN
      have hw1 : wrap64 (c * (zs.length : Int)) = P := by rw [← hP]; exact IntWalk.wrap64_in _ (by omega)
      have hw2 : IntKind.i64.wrap (c * (zs.length : Int)) = P := by rw [← hP]; exact IntWalk.i64_in _ (by omega)
      clear hP hl2
      go_wp2_with fail
      go_roundw
      case rel => exact ⟨k + 1, by omega, by go_num, by rw [HDN.out]; show Value.int .i64 _ = Value.int .i64 _; congr 1; omega, by rw [HDN.out]; omega, by rw [HDN.out]; omega, HB.out⟩
      case measure => simp [intOf]; omega
    · obtain rfl : k = cs.length := by omega
      go_wp2_with fail
      go_ret
      exact ⟨rfl, HB.out⟩
theorem sPlanCost_any (v : Value) (cs : List (Int × List Int)) (w : World) (h1 : Nat) (hv : LiesSg w h1 v cs) (hn : cs.length ≤ 1048576) (s c : Int) : Calls Try.prog 10 #[v, .int .i64 s, .int .i64 c] w (Gives (.int .i64 (pcostA cs s c)) w) := by
  unfold pcostA
  cases h : pcostB cs s c
  · exact sPlanCost_no v cs w h1 hv hn s c h
  · have h' := h
    simp only [pcostB, Bool.and_eq_true] at h'
    exact sPlanCost_yes v cs w h1 hv hn s c h'.1 h'.2.1 h'.2.2
end Go.Proofs.Ytgnoclnenhmakaa
