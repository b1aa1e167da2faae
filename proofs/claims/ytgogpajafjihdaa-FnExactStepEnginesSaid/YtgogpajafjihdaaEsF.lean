/-
  StepEngines: the program and the model, at every argument. No conditions but that slices fit in memory.
-/
import Derived.Test.YtgogpajafjihdaaEsD
import Derived.Test.YtgogpajafjihdaaPolyS
namespace Go.Proofs.Ytgogpajafjihdaa
set_option maxRecDepth 4000
open Go.RowKit
/-- The i-th argument, as int's sum gives it. -/
def argI (f : Int) (i : Nat) : Int := wrap64 (f + (i : Int))
def stPoly (p : List Int) (f : Int) (m : Int) (i : Nat) : List Int := stepA (shiftA p (argI f i)) m
def stepsB (p : List Int) (f m wi : Int) : Bool := stepOk m && (List.range m.toNat).all fun i => setB (stPoly p f m i) 0 wi
def stepsL (p : List Int) (f m wi : Int) : List (List ByteArray) := (List.range m.toNat).map fun i => setL (stPoly p f m i) 0 wi
/-- What StepEngines answers. -/
def stepsA (p : List Int) (f m wi : Int) : List (List ByteArray) := if stepsB p f m wi then stepsL p f m wi else []
theorem stepsL_get (p : List Int) (f m wi : Int) (k : Nat) (h : k < m.toNat) : (stepsL p f m wi)[k]? = some (setL (stPoly p f m k) 0 wi) := by simp [stepsL, h]
theorem stepsL_length (p : List Int) (f m wi : Int) : (stepsL p f m wi).length = m.toNat := by simp [stepsL]
theorem stepsB_bad {p : List Int} {f m wi : Int} (k : Nat) (hk : k < m.toNat) (h : setB (stPoly p f m k) 0 wi = false) : stepsB p f m wi = false := by
  have : ((List.range m.toNat).all fun i => setB (stPoly p f m i) 0 wi) = false := by
    cases e : (List.range m.toNat).all fun i => setB (stPoly p f m i) 0 wi
    · rfl
    · rw [List.all_eq_true.1 e k (List.mem_range.2 hk)] at h; cases h
  unfold stepsB
  rw [this, Bool.and_false]
theorem stepsB_of {p : List Int} {f m wi : Int} (hs : stepOk m = true) (h : ∀ j, j < m.toNat → setB (stPoly p f m j) 0 wi = true) : stepsB p f m wi = true := by
  unfold stepsB
  rw [hs, show ((List.range m.toNat).all fun i => setB (stPoly p f m i) 0 wi) = true from List.all_eq_true.2 fun i hi => h i (List.mem_range.1 hi)]; rfl
theorem steps_yes {p : List Int} {f m wi : Int} (h : stepsB p f m wi = true) : stepsA p f m wi = stepsL p f m wi := if_pos h
theorem steps_no {p : List Int} {f m wi : Int} (h : stepsB p f m wi = false) : stepsA p f m wi = [] := by rw [stepsA, h]; rfl
theorem steps_pos {p : List Int} {f m wi : Int} (h : stepsB p f m wi = true) : ∀ cs ∈ stepsL p f m wi, 0 < cs.length ∧ cs.length ≤ 1048576 := by
  intro cs hc
  unfold stepsL at hc
  obtain ⟨i, hi, rfl⟩ := List.mem_map.1 hc
  rw [stepsB, Bool.and_eq_true] at h
  have := (setB_in (List.all_eq_true.1 h.2 i hi)).2
  omega
theorem stepsA_len (p : List Int) (f m wi : Int) : (stepsA p f m wi).length ≤ 10 ∧ lenE (stepsA p f m wi) ≤ 100 := by
  cases h : stepsB p f m wi
  · rw [steps_no h]; simp [lenE]
  · rw [steps_yes h]
    have h10 : (stepsL p f m wi).length ≤ 10 := by
      have h' := h
      rw [stepsB, Bool.and_eq_true] at h'
      have := of_decide_eq_true (show decide (1 ≤ m ∧ m ≤ 10) = true from h'.1)
      rw [stepsL_length]; omega
    refine ⟨h10, ?_⟩
    have := lenE_le (stepsL p f m wi) 7 (fun cs hc => by
      unfold stepsL at hc
      obtain ⟨i, hi, rfl⟩ := List.mem_map.1 hc
      rw [stepsB, Bool.and_eq_true] at h
      exact (setB_in (List.all_eq_true.1 h.2 i hi)).2.2)
    omega
theorem polyOk_nil : polyOk [] = false := rfl
theorem setB_poly {q : List Int} {n wi : Int} (h : setB q n wi = true) : polyOk q = true := by
  unfold setB at h
  rw [Bool.and_eq_true] at h
  have := h.1
  unfold shiftB at this
  simp only [Bool.and_eq_true] at this
  first | exact this.1.1 | exact this.1
theorem steps_oks {p : List Int} {q m wi : Int} (h : setB (stepA (shiftA p q) m) 0 wi = true) : stepB (shiftA p q) m = true ∧ shiftB p q = true := by
  have h1 := setB_poly h
  have hs : stepB (shiftA p q) m = true := by
    unfold stepA at h1
    unfold stepB
    cases e : (polyOk (shiftA p q) && stepOk m)
    · rw [e] at h1; cases h1
    · rw [e, if_pos rfl, resL] at h1
      cases e2 : polyOk (everyL (shiftA p q) m)
      · rw [e2] at h1; cases h1
      · rfl
  refine ⟨hs, ?_⟩
  have h2 : polyOk (shiftA p q) = true := by
    unfold stepB at hs
    simp only [Bool.and_eq_true] at hs
    first | exact hs.1.1 | exact hs.1
  unfold shiftA at h2
  unfold shiftB
  cases e : (polyOk p && inB 200 q)
  · rw [e] at h2; cases h2
  · rw [e, if_pos rfl, resL] at h2
    cases e2 : polyOk (shiftL p q p.length)
    · rw [e2] at h2; cases h2
    · rfl
set_option maxHeartbeats 1600000 in
theorem stepEng_any (v0 : Value) (p : List Int) (f m wi : Int) (w : World) (lo0 hi0 : Nat) (hv0 : Lies w lo0 hi0 v0 p) : Calls Try.prog 7 #[v0, .int .i64 f, .int .i64 m, .int .i64 wi] w (NewEsB (stepsA p f m wi) (stepsB p f m wi) w) := by
  have HV0 := hidH hv0
  clear hv0
  cases hs : stepOk m
  · have HF := hidH (show stepsB p f m wi = false by rw [stepsB, hs]; rfl)
    have HF2 := hidH (steps_no HF.out)
    have HBT := hidH (fun W => between_any m 1 10 false (by have h := of_decide_eq_false (show decide (1 ≤ m ∧ m ≤ 10) = false from hs); exact decide_eq_false h) W)
    clear hs
    go_enter Try.func7, Try.ntmps7
    go_wp2_with fail
    refine (HBT.out _).mono ?_; rintro e w1 ⟨rfl, rfl⟩
    go_wp2_with fail
    go_ret2
    rw [HF.out, HF2.out]
    exact ⟨_, rfl, RowEs.nil _ _ _ _ _ (Nat.zero_le _) (fun _ => rfl) (Nat.le_refl _), Below.refl _ _⟩
  · have ⟨m1, m10⟩ := of_decide_eq_true (show decide (1 ≤ m ∧ m ≤ 10) = true from hs)
    have HS := hidH hs
    have HBT := hidH (fun W => between_any m 1 10 true (decide_eq_true ⟨m1, m10⟩) W)
    obtain ⟨m, rfl⟩ := Int.eq_ofNat_of_zero_le (show 0 ≤ m by omega)
    have HM := hidH (EsTo.start w m 40 (stepsL p f m wi))
    have hmk := made_eng m w (by omega)
    have HPG := hidH (fun k (hk : k < m) => stepsL_get p f m wi k (by rw [Int.toNat_natCast]; exact hk))
    have HPL := hidH (show (stepsL p f m wi).length = m by rw [stepsL_length, Int.toNat_natCast])
    have HBD := hidH (fun k (hk : k < m) => stepsB_bad (p := p) (f := f) (m := m) (wi := wi) k (by rw [Int.toNat_natCast]; exact hk))
    clear hs
    go_enter Try.func7, Try.ntmps7
    go_wp2_with fail
    refine (HBT.out _).mono ?_; rintro e w1 ⟨rfl, rfl⟩
    go_wp2_with fail
    go_loopw [24] (fun i wr => ∃ (k : Nat) (L : Nat → Nat), k ≤ m ∧ i = .int .i64 k ∧ (∀ j, j < k → setB (stPoly p f m j) 0 wi = true) ∧ EsTo wr w.heap.size m L (stepsL p f m wi) k ∧ Below w.heap.size w wr) (fun i _ => m - (intOf i).toNat)
    case atStart => exact ⟨0, _, Nat.zero_le _, rfl, (fun _ h => absurd h (Nat.not_lt_zero _)), HM.out, (Below.refl _ _).alloc (Nat.le_refl _) _⟩
    case round =>
      obtain ⟨k, L, hk, rfl, hok, hto, hb⟩ := hrel
      have HOK := hidH hok
      have HT := hidH hto
      have HB := hidH hb
      clear hok hto hb
      by_cases hlt : k < m
      · have HX := hidH (HPG.out k hlt)
        have HBK := hidH (HBD.out k hlt)
        have hq : ∃ q, argI f k = q := ⟨_, rfl⟩
        obtain ⟨q, hq⟩ := hq
        have HSP := hidH (show stPoly p f m k = stepA (shiftA p q) m by rw [stPoly, hq])
        rw [HSP.out] at HX HBK
        have hw1 : wrap64 (f + (k : Int)) = q := hq
        have hw2 : IntKind.i64.wrap (f + (k : Int)) = q := by rw [wrap_64]; exact hq
        clear hq
        go_wp2_with fail
        refine (shift_any _ p q _ _ _ (HV0.out.below HB.out)).mono ?_; rintro e w3 ⟨u3, rfl, hr, hb⟩
        have R3 := hidH hr
        have B3 := hidH (bThen HB.out hb)
        have b3 := hb
        clear hr hb
        go_wp2_with fail
        refine (step_any _ (shiftA p q) (m : Int) _ _ _ R3.out.lies).mono ?_; rintro e w4 ⟨u4, rfl, hr, hb⟩
        have R4 := hidH hr
        have B4 := hidH (bThen B3.out hb)
        have b4 := bThen b3 hb
        clear hr hb
        go_wp2_with fail
        refine (setUp_any _ (stepA (shiftA p q) (m : Int)) 0 wi _ _ _ R4.out.lies).mono ?_; rintro e w5 ⟨u, rfl, hr, hb⟩
        have RE := hidH hr
        have B5 := hidH (bThen B4.out hb)
        have b5 := bThen b4 hb
        have T5 := hidH (HT.out.below b5)
        have hs5 := hb.size
        have hs4 := b4.size
        obtain ⟨ua, uc, rfl⟩ := hr.some
        clear hr hb b3 b4 b5 hw1 hw2
        cases hsb : setB (stepA (shiftA p q) m) 0 wi
        · have HF := hidH (HBK.out hsb)
          have HF2 := hidH (steps_no HF.out)
          clear hsb
          go_wp2_with fail
          go_ret2
          rw [HF.out, HF2.out]
          exact ⟨_, rfl, RowEs.nil _ _ _ _ _ (Nat.zero_le _) (fun _ => rfl) (by simp; have := B5.out.size; omega), bMore B5.out _⟩
        · have HSB := hidH (show setB (stPoly p f m k) 0 wi = true by rw [HSP.out]; exact hsb)
          clear hsb
          generalize setL (stepA (shiftA p q) m) 0 wi = cs at *
          have BX := hidH (bMore (Below.refl w5.heap.size w5) (.cells #[.slice ua cs.length uc] 40))
          have T6 := hidH (T5.out.below BX.out)
          have R6 := hidH (RE.out.below BX.out)
          have B6 := hidH (bThen B5.out BX.out)
          obtain ⟨⟨x0, d0⟩, f0⟩ := T6.out.1 k hlt
          have hLk : L k ≤ wr.heap.size := HT.out.2.2.2.1
          have T7 := hidH (T6.out.put hlt HX.out R6.out (by omega) (by simp) hs5)
          go_wp2_with fail
          go_roundw
          case rel =>
            refine ⟨k + 1, _, by omega, by go_num, fun j hj => ?_, T7.out, B6.out.setCell (Nat.le_refl _) _⟩
            by_cases e : j = k
            · subst e; exact HSB.out
            · exact HOK.out j (by omega)
          case measure => simp [intOf]; omega
      · obtain rfl : k = m := by omega
        have HY := hidH (stepsB_of (wi := wi) HS.out (fun j hj => HOK.out j (by rw [Int.toNat_natCast] at hj; exact hj)))
        have HY2 := hidH (steps_yes HY.out)
        have HRW := hidH (HT.out.row HPL.out (Nat.le_refl _) (Nat.le_refl _) (by unfold maxLen; omega))
        go_wp2_with fail
        go_ret2
        rw [HY.out, HY2.out]
        exact ⟨_, rfl, HRW.out, HB.out⟩
set_option maxHeartbeats 1600000 in
theorem rawStep_any (v0 : Value) (p : List Int) (f m wi : Int) (w : World) (lo0 hi0 : Nat) (hv0 : Lies w lo0 hi0 v0 p) : Calls Try.prog 15 #[v0, .int .i64 f, .int .i64 m, .int .i64 wi] w (ReadEsB (stepsA p f m wi) (stepsB p f m wi) w) := by
  have HV0 := hidH hv0
  clear hv0
  cases hs : stepOk m
  · have HF := hidH (show stepsB p f m wi = false by rw [stepsB, hs]; rfl)
    have HF2 := hidH (steps_no HF.out)
    have HBT := hidH (fun W => sIn_any m 1 10 false (by have h := of_decide_eq_false (show decide (1 ≤ m ∧ m ≤ 10) = false from hs); exact decide_eq_false h) W)
    clear hs
    go_enter Try.func15, Try.ntmps15
    go_wp2_with fail
    refine (HBT.out _).mono ?_; rintro e w1 ⟨rfl, rfl⟩
    go_wp2_with fail
    go_ret2
    rw [HF.out, HF2.out]
    exact ⟨_, rfl, (RowEs.nil _ 0 _ _ _ (Nat.zero_le _) (fun h => by cases h) (Nat.zero_le _)).lies, (Below.refl _ _).alloc (Nat.le_refl _) _⟩
  · have ⟨m1, m10⟩ := of_decide_eq_true (show decide (1 ≤ m ∧ m ≤ 10) = true from hs)
    have HS := hidH hs
    have HBT := hidH (fun W => sIn_any m 1 10 true (decide_eq_true ⟨m1, m10⟩) W)
    obtain ⟨m, rfl⟩ := Int.eq_ofNat_of_zero_le (show 0 ≤ m by omega)
    have HPG := hidH (fun k (hk : k < m) => stepsL_get p f m wi k (by rw [Int.toNat_natCast]; exact hk))
    have HPL := hidH (show (stepsL p f m wi).length = m by rw [stepsL_length, Int.toNat_natCast])
    have HBD := hidH (fun k (hk : k < m) => stepsB_bad (p := p) (f := f) (m := m) (wi := wi) k (by rw [Int.toNat_natCast]; exact hk))
    have HO := hidH (World.ownsRow_made (base := w.heap.size) (e := 40) (size := 1) w #[] 0 (Nat.le_refl _) (Nat.zero_le _) rfl)
    clear hs
    obtain ⟨i0, hi0, hz0, hz1, hz2⟩ := info_parts info_eng
    go_enter Try.func15, Try.ntmps15
    go_wp2_with fail
    refine (HBT.out _).mono ?_; rintro e w1 ⟨rfl, rfl⟩
    go_wp2_with fail
    go_loopw [10, 11] (fun o i wr => ∃ (k : Nat) (ov : Value) (us : List Value), k ≤ m ∧ i = .int .i64 k ∧ ov = o ∧ (∀ j, j < k → setB (stPoly p f m j) 0 wi = true) ∧ wr.ownsRow w.heap.size 40 1 ov k us ∧ InAt wr ov us ((stepsL p f m wi).take k) ∧ Below w.heap.size w wr) (fun _ i _ => m - (intOf i).toNat)
    case atStart => exact ⟨0, _, [], Nat.zero_le _, rfl, rfl, (fun _ h => absurd h (Nat.not_lt_zero _)), HO.out, by rw [List.take_zero]; exact InAt.nil _ _, (Below.refl _ _).alloc (Nat.le_refl _) _⟩
    case round =>
      obtain ⟨k, ov, us, hk, rfl, rfl, hok, hown, hin, hb⟩ := hrel
      have HOK := hidH hok
      have HW := hidH hown
      have HI := hidH hin
      have HB := hidH hb
      clear hok hown hin hb
      by_cases hlt : k < m
      · have HX := hidH (HPG.out k hlt)
        have HBK := hidH (HBD.out k hlt)
        have hq : ∃ q, argI f k = q := ⟨_, rfl⟩
        obtain ⟨q, hq⟩ := hq
        have HSP := hidH (show stPoly p f m k = stepA (shiftA p q) m by rw [stPoly, hq])
        rw [HSP.out] at HX HBK
        have hw1 : wrap64 (f + (k : Int)) = q := hq
        have hw2 : IntKind.i64.wrap (f + (k : Int)) = q := by rw [wrap_64]; exact hq
        clear hq
        go_wp2_with fail
        refine (sShift_any _ p q _ _ _ (HV0.out.below HB.out)).mono ?_; rintro e w3 ⟨u3, rfl, hr, hb⟩
        have R3 := hidH hr
        have B3 := hidH (bThen HB.out hb)
        have b3 := hb
        clear hr hb
        go_wp2_with fail
        refine (sStep_any _ (shiftA p q) (m : Int) _ _ _ R3.out.lies).mono ?_; rintro e w4 ⟨u4, rfl, hr, hb⟩
        have R4 := hidH hr
        have B4 := hidH (bThen B3.out hb)
        have b4 := bThen b3 hb
        clear hr hb
        go_wp2_with fail
        refine (sSetUp_any _ (stepA (shiftA p q) (m : Int)) 0 wi _ _ _ R4.out.lies).mono ?_; rintro e w5 ⟨u, rfl, hr, hb⟩
        obtain ⟨ea, ec, rfl⟩ := hr.some
        clear hw1 hw2
        cases hsb : setB (stepA (shiftA p q) m) 0 wi
        · have HF := hidH (HBK.out hsb)
          have HF2 := hidH (steps_no HF.out)
          have B5 := hidH (bThen B4.out hb)
          clear hsb hr hb b3 b4
          cases shiftB p q
          · go_wp2_with fail
            go_ret2
            rw [HF.out, HF2.out]
            exact ⟨_, rfl, (RowEs.nil _ 0 _ _ _ (Nat.zero_le _) (fun h => by cases h) (Nat.zero_le _)).lies, bMore (bMore B5.out _) _⟩
          · cases stepB (shiftA p q) m
            · go_wp2_with fail
              go_ret2
              rw [HF.out, HF2.out]
              exact ⟨_, rfl, (RowEs.nil _ 0 _ _ _ (Nat.zero_le _) (fun h => by cases h) (Nat.zero_le _)).lies, bMore (bMore B5.out _) _⟩
            · go_wp2_with fail
              go_ret2
              rw [HF.out, HF2.out]
              exact ⟨_, rfl, (RowEs.nil _ 0 _ _ _ (Nat.zero_le _) (fun h => by cases h) (Nat.zero_le _)).lies, bMore (bMore B5.out _) _⟩
        · have HSB := hidH (show setB (stPoly p f m k) 0 wi = true by rw [HSP.out]; exact hsb)
          have ⟨g1, g2⟩ := steps_oks hsb
          rw [g1, g2]
          clear hsb g1 g2
          generalize setL (stepA (shiftA p q) m) 0 wi = cs at *
          have b5 := bThen b4 hb
          have hbx := (b5.alloc b5.size (.cells #[.slice ea cs.length ec] 40))
          have RE := hidH (hr.below ((Below.refl _ w5).alloc (Nat.le_refl _) (.cells #[.slice ea cs.length ec] 40)))
          have B5 := hidH (bThen HB.out hbx)
          have W5 := hidH (owns_below HW.out hbx)
          have I5 := hidH (HI.out.below hbx)
          have hs4 := b4.size
          have HLT := hidH (fun g (hg : ov.ownBlock = some g) => show g < w4.heap.size from by have := (HW.out.lt g hg).2; omega)
          have hs5 := B5.out.size
          rw [World.size_alloc] at hs5
          have NE := hidH (show ∀ (j : Nat) x, [Value.slice ea cs.length ec][j]? = some x → ((w5.alloc (.cells #[.slice ea cs.length ec] 40)).alloc (.cells #[.slice ea cs.length ec] 40)).cell? ((⟨w5.heap.size + 1, 0, none⟩ : Addr).add j) = some x from by
            have h := news_eng (w5.alloc (.cells #[.slice ea cs.length ec] 40)) (.slice ea cs.length ec) 40
            rwa [World.size_alloc] at h)
          clear hr hb hbx b3 b4 b5
          go_wp2_with (at_builtin; refine wpList_append_lies _ rfl _ _ 23 rfl w.heap.size 40 i0 (.agg #[.slice none 0 0]) 1 24 Try.underlying23 hi0 hz0 hz1 hz2 rfl (by decide) ov k us rfl (owns_below W5.out ((Below.refl _ (w5.alloc (.cells #[.slice ea cs.length ec] 40))).alloc (Nat.le_refl _) _)) ⟨w5.heap.size + 1, 0, none⟩ 1 1 [.slice ea cs.length ec] rfl rfl NE.out (by simp [Value.oneCell']) (by decide) (by unfold maxLen; omega) (by omega) (by simp; omega) _ rfl ?_)
          intro g7 cap7 w7 hown1 hgrow hat hlt7
          have W7 := hidH hown1
          have I7 := hidH ((I5.out.below ((Below.refl _ (w5.alloc (.cells #[.slice ea cs.length ec] 40))).alloc (Nat.le_refl _) _)).snoc (ov' := .slice (some ⟨g7, 0, none⟩) (k + 1) cap7) hgrow hgrow.size rfl (hat.imp id (fun h => by rw [h]; simp)) ((RE.out.lies.below ((Below.refl _ (w5.alloc (.cells #[.slice ea cs.length ec] 40))).alloc (Nat.le_refl _) _)).mono (Nat.le_refl _) (by simp <;> omega)) (fun g hg => HLT.out g hg))
          have B7 := hidH ((B5.out.alloc B5.out.size _).grown hgrow (by have := B5.out.size; simp at this ⊢; omega) fun g hg => (W5.out.lt g hg).1)
          clear hown1 hgrow hat hlt7
          go_wp2_with fail
          go_roundw
          case rel =>
            refine ⟨k + 1, _, _, by omega, by go_num, rfl, fun j hj => ?_, W7.out, by rw [List.take_add_one, HX.out]; exact I7.out, B7.out⟩
            by_cases e : j = k
            · subst e; exact HSB.out
            · exact HOK.out j (by omega)
          case measure => simp [intOf]; omega
      · obtain rfl : k = m := by omega
        have HY := hidH (stepsB_of (wi := wi) HS.out (fun j hj => HOK.out j (by rw [Int.toNat_natCast] at hj; exact hj)))
        have HY2 := hidH (steps_yes HY.out)
        have h := HI.out
        rw [show (stepsL p f k wi).take k = stepsL p f k wi by have e := List.take_length (l := stepsL p f k wi); rw [HPL.out] at e; exact e] at h
        have HL := hidH (h.lies HW.out)
        clear h
        go_wp2_with fail
        go_ret2
        rw [HY.out, HY2.out]
        exact ⟨_, rfl, HL.out, HB.out⟩
theorem sStepEng_any (v0 : Value) (p : List Int) (f m wi : Int) (w : World) (lo0 hi0 : Nat) (hv0 : Lies w lo0 hi0 v0 p) : Calls Try.prog 5 #[v0, .int .i64 f, .int .i64 m, .int .i64 wi] w (ReadEsB (stepsA p f m wi) (stepsB p f m wi) w) := by
  have HR := hidH (rawStep_any v0 p f m wi w lo0 hi0 hv0)
  have hl := (stepsA_len p f m wi).1
  have HOW := hidH (fun v W h1 (hl : LiesEs W h1 v (stepsA p f m wi)) => ownEngs_any v (stepsA p f m wi) W h1 hl (by omega) (by
    cases e : stepsB p f m wi
    · rw [steps_no e]; intro cs hc; cases hc
    · rw [steps_yes e]; exact steps_pos e))
  clear hl
  go_enter Try.func5, Try.ntmps5
  go_wp2_with fail
  refine HR.out.mono ?_; rintro e w1 ⟨u, rfl, hlu, hb⟩
  have HU := hidH hlu
  have HB := hidH hb
  clear hlu hb
  go_wp2_with fail
  refine (HOW.out _ _ _ HU.out).mono ?_; rintro e w2 ⟨x, rfl, hlx, hb⟩
  have HX := hidH hlx
  have HB2 := hidH (bThen HB.out hb)
  clear hlx hb
  go_wp2_with fail
  go_ret2
  exact ⟨_, rfl, HX.out, HB2.out⟩
end Go.Proofs.Ytgogpajafjihdaa
