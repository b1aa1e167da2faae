/-
  DiffsOf, LeastDegree and Interpolate: the program and the model, at every argument. No conditions but that slices fit in memory.
-/
import Derived.Test.YtgnoclnenhmakaaPolyI
import Derived.Test.YtgnoclnenhmakaaPolyFa
namespace Go.Proofs.Ytgnoclnenhmakaa
set_option maxRecDepth 4000
open Go.RowKit
theorem tableOk_len (zs : List Int) (h : tableOk zs = true) : 1 ≤ zs.length ∧ zs.length ≤ 60 := by
  have ⟨a, b, _⟩ := (listOk_iff _ _ _).1 h
  exact ⟨a, b⟩
/-- What DiffsOf answers. -/
def shortOk (zs : List Int) : Bool := decide (zs.length ≤ 30)
def diffsA (zs : List Int) : List Int := if tableOk zs && shortOk zs then leadW zs.length zs else []
theorem diffsA_len (zs : List Int) : (diffsA zs).length ≤ 1048576 := by
  unfold diffsA
  split
  · rename_i h
    simp only [Bool.and_eq_true] at h
    have := tableOk_len _ h.1
    rw [leadW_length]; omega
  · simp
/-- The least degree, of f more degrees from j - 1 on. -/
def leastN : Nat → Nat → List Int → Int
  | 0, _, _ => 7
  | f + 1, j, zs => if zeroOk (difN j zs) then (j : Int) - 1 else leastN f (j + 1) zs
def leastL (zs : List Int) : Int := if tableOk zs then leastN 8 0 zs else -2
theorem leastN_hit (f j : Nat) (zs : List Int) (h : zeroOk (difN j zs) = true) : leastN (f + 1) j zs = (j : Int) - 1 := by rw [leastN, if_pos h]
theorem leastN_miss (f j : Nat) (zs : List Int) (h : zeroOk (difN j zs) = false) : leastN (f + 1) j zs = leastN f (j + 1) zs := by rw [leastN, if_neg (by rw [h]; decide)]
theorem zero_nil : zeroOk [] = true := rfl
theorem sZero_any (v : Value) (zs : List Int) (w : World) (lo hi : Nat) (hv : Lies w lo hi v zs) : Calls Try.prog 104 #[v] w fun e w' => e = .returned (.bool (zeroOk zs)) ∧ w = w' := by
  obtain ⟨a, cap, rfl, hlc, hcm, hnil, hcell⟩ := hv
  unfold maxLen at hcm
  have HC := hidH hcell
  clear hcell hnil
  go_enter Try.func104, Try.ntmps104
  go_wp2_with fail
  go_loop [3] (fun i => ∃ k : Nat, k ≤ zs.length ∧ i = .int .i64 k ∧ (zs.take k).any (fun x => x != 0) = false) (fun i => zs.length - (intOf i).toNat)
  case atStart => exact ⟨0, Nat.zero_le _, rfl, by simp⟩
  case round =>
    obtain ⟨k, hk, rfl, hn⟩ := hrel
    have HN := hidH hn
    clear hn
    by_cases hlt : k < zs.length
    · obtain ⟨z, hz⟩ := get_lt zs k hlt
      obtain ⟨b, off, rfl, _, _, hcz⟩ := HC.out k z hz
      have HZ := hidH hz
      clear hz
      by_cases hz0 : z = 0
      · subst hz0
        go_wp2_with fail
        go_round
        case rel => exact ⟨k + 1, by omega, by go_num, any_take _ _ _ _ HZ.out HN.out rfl⟩
        case measure => simp [intOf]; omega
      · have hzb : (z != 0) = true := bne_iff_ne.2 hz0
        have hzb2 : (z == 0) = false := beq_eq_false_iff_ne.2 hz0
        have HA := hidH (show zeroOk zs = false by rw [zeroOk, any_at _ zs k z HZ.out hzb]; rfl)
        go_wp2_with fail
        go_ret
        exact ⟨by rw [HA.out]; rfl, rfl⟩
    · obtain rfl : k = zs.length := by omega
      have HA := hidH (show zeroOk zs = true by have := HN.out; rw [List.take_of_length_le (Nat.le_refl _)] at this; rw [zeroOk, this]; rfl)
      go_wp2_with fail
      go_ret
      exact ⟨by rw [HA.out]; rfl, rfl⟩
theorem least_any (v : Value) (zs : List Int) (w : World) (lo hi : Nat) (hv : Lies w lo hi v zs) : Calls Try.prog 97 #[v] w (Gives (.int .i64 (leastL zs)) w) := by
  have HV := hidH hv
  clear hv
  cases h : tableOk zs
  · have HE := hidH (show leastL zs = -2 by rw [leastL, h]; rfl)
    have HZ := hidH h
    clear h
    go_enter Try.func97, Try.ntmps97
    go_wp2_with fail
    refine (tableValid_any _ zs _ _ _ HV.out).mono ?_; rintro e w1 ⟨rfl, hb⟩
    rw [HZ.out]
    go_wp2_with fail
    go_ret
    exact ⟨by rw [HE.out]; rfl, hb⟩
  · have ⟨h1, h6⟩ := tableOk_len _ h
    have HE := hidH (show leastL zs = leastN 8 0 zs by rw [leastL, h]; rfl)
    have HZ := hidH h
    clear h
    go_enter Try.func97, Try.ntmps97
    go_wp2_with fail
    refine (tableValid_any _ zs _ _ _ HV.out).mono ?_; rintro e w1 ⟨rfl, hb⟩
    rw [HZ.out]
    have HB := hidH hb
    have HV1 := hidH (HV.out.below hb)
    clear hb
    go_wp2_with fail
    go_loopw [3, 4] (fun vs i wr => ∃ (j : Nat) (cv : Value) (l h : Nat), j ≤ 8 ∧ i = .int .i64 ((j : Int) - 1) ∧ cv = vs ∧ Lies wr l h cv (difN j zs) ∧ leastN (8 - j) j zs = leastN 8 0 zs ∧ Below w.heap.size w wr) (fun _ i _ => (8 - intOf i).toNat)
    case atStart => exact ⟨0, v, lo, hi, by omega, rfl, rfl, HV1.out, rfl, HB.out⟩
    case round =>
      obtain ⟨j, cv, l, h, hj, rfl, rfl, hl, hn, hb⟩ := hrel
      have HN := hidH hn
      have HL := hidH hl
      have HBq := hidH hb
      clear hn hl hb
      by_cases hlt : j < 8
      · cases hz : zeroOk (difN j zs)
        · have HZZ := hidH hz
          obtain ⟨x, ys, hxy⟩ : ∃ x ys, difN j zs = x :: ys := by
            cases e : difN j zs with
            | nil => rw [e, zero_nil] at hz; cases hz
            | cons x ys => exact ⟨x, ys, rfl⟩
          have hyl : ys.length ≤ 1048576 := by have := difN_length j zs; rw [hxy] at this; simp at this; omega
          have HXY := hidH hxy
          have HD := hidH (show difN (j + 1) zs = difW (x :: ys) by rw [difN_snoc, hxy])
          have HM := hidH (leastN_miss (7 - j) j zs hz)
          clear hz hxy
          go_wp2_with fail
          refine (allZero_any _ (difN j zs) _ _ _ HL.out).mono ?_; rintro e w2 ⟨rfl, rfl⟩
          rw [HZZ.out]
          go_wp2_with fail
          have hcal := diffs_any cv x ys wr l h (by have := HL.out; rw [HXY.out] at this; exact this) hyl
          refine hcal.mono ?_; rintro e w3 ⟨v3, rfl, hr3, hb3⟩
          have HR3 := hidH hr3
          have HB3 := hidH (HBq.out.trans (hb3.mono HBq.out.size))
          have hs3 := hb3.size
          clear hcal hr3 hb3
          go_wp2_with fail
          go_roundw
          case rel => exact ⟨j + 1, v3, wr.heap.size, w3.heap.size, by omega, by go_num, rfl, by rw [HD.out]; exact HR3.out.lies, by rw [← HN.out, show 8 - j = 7 - j + 1 by omega, HM.out, show 8 - (j + 1) = 7 - j by omega], HB3.out⟩
          case measure => simp [intOf]; omega
        · have HZZ := hidH hz
          have HM := hidH (leastN_hit (7 - j) j zs hz)
          clear hz
          go_wp2_with fail
          refine (allZero_any _ (difN j zs) _ _ _ HL.out).mono ?_; rintro e w2 ⟨rfl, rfl⟩
          rw [HZZ.out]
          go_wp2_with fail
          go_ret
          exact ⟨by rw [HE.out, ← HN.out, show 8 - j = 7 - j + 1 by omega, HM.out]; rfl, HBq.out⟩
      · obtain rfl : j = 8 := by omega
        go_wp2_with fail
        go_ret
        exact ⟨by rw [HE.out, ← HN.out]; rfl, HBq.out⟩
theorem sLeast_any (v : Value) (zs : List Int) (w : World) (lo hi : Nat) (hv : Lies w lo hi v zs) : Calls Try.prog 94 #[v] w (Gives (.int .i64 (leastL zs)) w) := by
  have HV := hidH hv
  clear hv
  cases h : tableOk zs
  · have HE := hidH (show leastL zs = -2 by rw [leastL, h]; rfl)
    have HZ := hidH h
    clear h
    go_enter Try.func94, Try.ntmps94
    go_wp2_with fail
    refine (sTableValid_gives _ zs _ _ _ HV.out).mono ?_; rintro e w1 ⟨rfl, hb⟩
    rw [HZ.out]
    go_wp2_with fail
    go_ret
    exact ⟨by rw [HE.out]; rfl, hb⟩
  · have ⟨h1, h6⟩ := tableOk_len _ h
    have HE := hidH (show leastL zs = leastN 8 0 zs by rw [leastL, h]; rfl)
    have HZ := hidH h
    clear h
    go_enter Try.func94, Try.ntmps94
    go_wp2_with fail
    refine (sTableValid_gives _ zs _ _ _ HV.out).mono ?_; rintro e w1 ⟨rfl, hb⟩
    rw [HZ.out]
    have HB := hidH hb
    have HV1 := hidH (HV.out.below hb)
    clear hb
    go_wp2_with fail
    go_loopw [3, 4] (fun vs i wr => ∃ (j : Nat) (cv : Value) (l h : Nat), j ≤ 7 ∧ i = .int .i64 ((j : Int) - 1) ∧ cv = vs ∧ Lies wr l h cv (difN j zs) ∧ leastN (8 - j) j zs = leastN 8 0 zs ∧ Below w.heap.size w wr) (fun _ i _ => (8 - intOf i).toNat)
    case atStart => exact ⟨0, v, lo, hi, by omega, rfl, rfl, HV1.out, rfl, HB.out⟩
    case round =>
      obtain ⟨j, cv, l, h, hj, rfl, rfl, hl, hn, hb⟩ := hrel
      have HN := hidH hn
      have HL := hidH hl
      have HBq := hidH hb
      clear hn hl hb
      cases hz : zeroOk (difN j zs)
      · have HZZ := hidH hz
        have HM := hidH (leastN_miss (7 - j) j zs hz)
        have hlen : (difN j zs).length ≤ 1048576 := by have := difN_length j zs; omega
        clear hz
        by_cases hlt : j < 7
        · go_wp2_with fail
          refine (sZero_any _ (difN j zs) _ _ _ HL.out).mono ?_; rintro e w2 ⟨rfl, rfl⟩
          rw [HZZ.out]
          go_wp2_with fail
          refine (sNext_any _ (difN j zs) _ _ _ HL.out hlen).mono ?_; rintro e w3 ⟨v3, rfl, hr3, hb3⟩
          have HR3 := hidH hr3
          have HB3 := hidH (HBq.out.trans (hb3.mono HBq.out.size))
          have hs3 := hb3.size
          clear hr3 hb3
          go_wp2_with fail
          go_roundw
          case rel => exact ⟨j + 1, v3, wr.heap.size, w3.heap.size, by omega, by go_num, rfl, by rw [difN_snoc]; exact HR3.out.lies, by rw [← HN.out, show 8 - j = 7 - j + 1 by omega, HM.out, show 8 - (j + 1) = 7 - j by omega], HB3.out⟩
          case measure => simp [intOf]; omega
        · obtain rfl : j = 7 := by omega
          go_wp2_with fail
          refine (sZero_any _ (difN 7 zs) _ _ _ HL.out).mono ?_; rintro e w2 ⟨rfl, rfl⟩
          rw [HZZ.out]
          go_wp2_with fail
          go_ret
          exact ⟨by rw [HE.out, ← HN.out, show 8 - 7 = 7 - 7 + 1 by omega, HM.out]; rfl, HBq.out⟩
      · have HZZ := hidH hz
        have HM := hidH (leastN_hit (7 - j) j zs hz)
        clear hz
        by_cases hlt : j < 7
        · go_wp2_with fail
          refine (sZero_any _ (difN j zs) _ _ _ HL.out).mono ?_; rintro e w2 ⟨rfl, rfl⟩
          rw [HZZ.out]
          go_wp2_with fail
          go_ret
          exact ⟨by rw [HE.out, ← HN.out, show 8 - j = 7 - j + 1 by omega, HM.out]; rfl, HBq.out⟩
        · obtain rfl : j = 7 := by omega
          go_wp2_with fail
          refine (sZero_any _ (difN 7 zs) _ _ _ HL.out).mono ?_; rintro e w2 ⟨rfl, rfl⟩
          rw [HZZ.out]
          go_wp2_with fail
          go_ret
          exact ⟨by rw [HE.out, ← HN.out, show 8 - 7 = 7 - 7 + 1 by omega, HM.out]; rfl, HBq.out⟩
theorem leastN_bd (f j : Nat) (zs : List Int) (h : f + j = 8) (hz : j ≤ zs.length) : (j : Int) - 1 ≤ leastN f j zs ∧ leastN f j zs ≤ 7 ∧ (leastN f j zs ≤ 6 → leastN f j zs + 1 ≤ zs.length) := by
  induction f generalizing j with
  | zero => simp [leastN]; omega
  | succ f ih =>
    cases hk : zeroOk (difN j zs)
    · have hlt : j < zs.length := by
        apply Classical.byContradiction
        intro hge
        have : difN j zs = [] := List.eq_nil_of_length_eq_zero (by rw [difN_length]; omega)
        rw [this, zero_nil] at hk; cases hk
      rw [leastN_miss f j zs hk]
      have := ih (j + 1) (by omega) (by omega)
      omega
    · rw [leastN_hit f j zs hk]
      omega
/-- How many differences a polynomial with a table has. -/
def interN (zs : List Int) : Nat := max (leastL zs + 1).toNat 1
def interOk (zs : List Int) : Bool := decide (-1 ≤ leastL zs ∧ leastL zs ≤ 6)
/-- What Interpolate answers. -/
def interA (zs : List Int) : List Int := if interOk zs then resL (leadW (interN zs) zs) else []
def interB (zs : List Int) : Bool := interOk zs && polyOk (leadW (interN zs) zs)
theorem interA_len (zs : List Int) : (interA zs).length ≤ 1048576 := by unfold interA; split <;> first | exact resL_len _ | simp
theorem inter_bd (zs : List Int) (h : interOk zs = true) : tableOk zs = true ∧ 1 ≤ zs.length ∧ zs.length ≤ 60 ∧ -1 ≤ leastL zs ∧ leastL zs ≤ 6 ∧ 1 ≤ interN zs ∧ interN zs ≤ zs.length ∧ (leastL zs + 1 ≤ 1 → interN zs = 1) ∧ (1 ≤ leastL zs + 1 → (interN zs : Int) = leastL zs + 1) := by
  have ⟨a, b⟩ := of_decide_eq_true h
  have ht : tableOk zs = true := by
    cases hk : tableOk zs
    · rw [leastL, hk] at a; simp at a
    · rfl
  have ⟨h1, h2⟩ := tableOk_len _ ht
  have e : leastL zs = leastN 8 0 zs := by rw [leastL, ht]; rfl
  have hb := leastN_bd 8 0 zs rfl (Nat.zero_le _)
  rw [← e] at hb
  unfold interN
  refine ⟨ht, h1, h2, a, b, ?_, ?_, ?_, ?_⟩ <;> omega
theorem inter_any (v : Value) (zs : List Int) (w : World) (lo hi : Nat) (hv : Lies w lo hi v zs) : Calls Try.prog 79 #[v] w (NewRowB (interA zs) (interB zs) w) := by
  have HV := hidH hv
  clear hv
  cases h : interOk zs
  · have HEA := hidH (show interA zs = [] by rw [interA, h]; rfl)
    have HEB := hidH (show interB zs = false by rw [interB, h]; rfl)
    have hd : leastL zs < -1 ∨ (-1 ≤ leastL zs ∧ 6 < leastL zs) := by have := of_decide_eq_false h; omega
    rcases hd with hd | ⟨hd, hd2⟩
    · clear h
      go_enter Try.func79, Try.ntmps79
      go_wp2_with fail
      refine (least_any v zs _ _ _ HV.out).mono ?_; rintro e w1 ⟨rfl, hb⟩
      go_wp2_with fail
      go_ret2
      rw [HEA.out, HEB.out]
      exact ⟨_, rfl, Row.nil _ _ _ _ _ (Nat.zero_le _) (fun _ => rfl), hb⟩
    · clear h
      go_enter Try.func79, Try.ntmps79
      go_wp2_with fail
      refine (least_any v zs _ _ _ HV.out).mono ?_; rintro e w1 ⟨rfl, hb⟩
      go_wp2_with fail
      go_ret2
      rw [HEA.out, HEB.out]
      exact ⟨_, rfl, Row.nil _ _ _ _ _ (Nat.zero_le _) (fun _ => rfl), hb⟩
  · have ⟨ht, h1, h60, a, b, m1, m2, m3, m4⟩ := inter_bd zs h
    have HEA := hidH (show interA zs = resL (leadW (interN zs) zs) by rw [interA, h]; rfl)
    have HEB := hidH (show interB zs = polyOk (leadW (interN zs) zs) by rw [interB, h]; rfl)
    clear h ht
    by_cases hq : 1 ≤ leastL zs + 1
    · have hq2 : ¬ leastL zs + 1 < 1 := by omega
      have HCN := hidH (show ((interN zs : Nat) : Int) = leastL zs + 1 by omega)
      go_enter Try.func79, Try.ntmps79
      go_wp2_with fail
      refine (least_any v zs _ _ _ HV.out).mono ?_; rintro e w1 ⟨rfl, hb⟩
      have hcal := lead_any v zs (interN zs) w1 lo hi (HV.out.below hb) m2 (by omega)
      rw [HCN.out] at hcal
      have HCAL := hidH hcal
      have HB := hidH hb
      clear hb hcal
      go_wp2_with fail
      refine HCAL.out.mono ?_; rintro e w2 ⟨v1, rfl, hr, hb⟩
      have HR := hidH hr
      have HB2 := hidH (HB.out.trans (hb.mono HB.out.size))
      have hsz := HB.out.size
      clear hr hb
      go_wp2_with fail
      refine (ifPoly_any v1 _ _ _ HR.out).mono ?_; rintro e w3 ⟨v2, rfl, hr, hb⟩
      have HR3 := hidH hr
      have HB3 := hidH (HB2.out.trans (hb.mono HB2.out.size))
      clear hr hb
      generalize polyOk (leadW (interN zs) zs) = r at *
      go_wp2_with fail
      go_ret2
      rw [HEA.out, HEB.out]
      exact ⟨_, rfl, HR3.out.mono hsz (Nat.le_refl _), HB3.out⟩
    · have hq2 : leastL zs + 1 < 1 := by omega
      have HCN := hidH (show ((interN zs : Nat) : Int) = 1 by omega)
      go_enter Try.func79, Try.ntmps79
      go_wp2_with fail
      refine (least_any v zs _ _ _ HV.out).mono ?_; rintro e w1 ⟨rfl, hb⟩
      have hcal := lead_any v zs (interN zs) w1 lo hi (HV.out.below hb) m2 (by omega)
      rw [HCN.out] at hcal
      have HCAL := hidH hcal
      have HB := hidH hb
      clear hb hcal
      go_wp2_with fail
      refine HCAL.out.mono ?_; rintro e w2 ⟨v1, rfl, hr, hb⟩
      have HR := hidH hr
      have HB2 := hidH (HB.out.trans (hb.mono HB.out.size))
      have hsz := HB.out.size
      clear hr hb
      go_wp2_with fail
      refine (ifPoly_any v1 _ _ _ HR.out).mono ?_; rintro e w3 ⟨v2, rfl, hr, hb⟩
      have HR3 := hidH hr
      have HB3 := hidH (HB2.out.trans (hb.mono HB2.out.size))
      clear hr hb
      generalize polyOk (leadW (interN zs) zs) = r at *
      go_wp2_with fail
      go_ret2
      rw [HEA.out, HEB.out]
      exact ⟨_, rfl, HR3.out.mono hsz (Nat.le_refl _), HB3.out⟩
theorem sInter_any (v : Value) (zs : List Int) (w : World) (lo hi : Nat) (hv : Lies w lo hi v zs) : Calls Try.prog 95 #[v] w (NewRowB (interA zs) (interB zs) w) := by
  have HV := hidH hv
  clear hv
  cases h : interOk zs
  · have HEA := hidH (show interA zs = [] by rw [interA, h]; rfl)
    have HEB := hidH (show interB zs = false by rw [interB, h]; rfl)
    have HZ := hidH h
    clear h
    go_enter Try.func95, Try.ntmps95
    go_wp2_with fail
    refine (sLeast_any v zs _ _ _ HV.out).mono ?_; rintro e w1 ⟨rfl, hb⟩
    have HB := hidH hb
    clear hb
    go_wp2_with fail
    refine (sIn_any (leastL zs) (-1) 6 (interOk zs) rfl _).mono ?_; rintro e w_ ⟨rfl, rfl⟩
    rw [HZ.out]
    go_wp2_with fail
    go_ret2
    rw [HEA.out, HEB.out]
    exact ⟨_, rfl, Row.nil _ _ _ _ _ (Nat.zero_le _) (fun _ => rfl), HB.out.trans (((Below.refl _ _).alloc (Nat.le_refl _) _).mono HB.out.size)⟩
  · have ⟨ht, h1, h60, a, b, m1, m2, m3, m4⟩ := inter_bd zs h
    have HEA := hidH (show interA zs = resL (leadW (interN zs) zs) by rw [interA, h]; rfl)
    have HEB := hidH (show interB zs = polyOk (leadW (interN zs) zs) by rw [interB, h]; rfl)
    have HZ := hidH h
    obtain ⟨bb, off, cap, rfl, hlc, hcm, hl1, hh1, hbw, hcell⟩ := HV.out.addr (by omega)
    have HTL := hidH (show (zs.take (interN zs)).length = interN zs by rw [List.length_take]; omega)
    have HTK := hidH (leadW_take (interN zs) zs (interN zs) (Nat.le_refl _) m2)
    clear h ht hcell
    have hcapz : interN zs ≤ cap := by omega
    have HRES := hidH fun (w1 : World) (hb : Below w.heap.size w w1) => sResult_any (.slice (some ⟨bb, off, none⟩) (interN zs) cap) (zs.take (interN zs)) w1 lo hi (by obtain ⟨b2, off2, cap2, e, hlc, hcm, hl1, hh1, hbw, hcell⟩ := (HV.out.below hb).addr (by omega); injection e with e1 e2 e3; injection e1 with e1; injection e1 with e1 e4; subst e1; subst e4; subst e3; exact lies_take _ m2 hlc hcm hl1 hh1 hcell) (by rw [HTL.out]; omega)
    unfold maxLen at hcm
    by_cases hq : 1 ≤ leastL zs + 1
    · have hq2 : ¬ leastL zs + 1 < 1 := by omega
      have hnt : (leastL zs + 1).toNat = interN zs := by omega
      go_enter Try.func95, Try.ntmps95
      go_wp2_with fail
      refine (sLeast_any _ zs _ _ _ HV.out).mono ?_; rintro e w1 ⟨rfl, hb⟩
      have HB := hidH hb
      clear hb
      go_wp2_with fail
      refine (sIn_any (leastL zs) (-1) 6 (interOk zs) rfl _).mono ?_; rintro e w_ ⟨rfl, rfl⟩
      rw [HZ.out]
      go_wp2_with fail
      have hcal := HRES.out w1 HB.out
      refine hcal.mono ?_; rintro e w2 ⟨v2, rfl, hr, hb⟩
      rw [HTL.out, HTK.out] at hr ⊢
      have HR := hidH hr
      have HB2 := hidH (HB.out.trans (hb.mono HB.out.size))
      have hsz := HB.out.size
      clear hcal hr hb
      generalize polyOk (leadW (interN zs) zs) = r at *
      go_wp2_with fail
      go_ret2
      rw [HEA.out, HEB.out]
      exact ⟨_, rfl, HR.out.mono hsz (Nat.le_refl _), HB2.out⟩
    · have hq2 : leastL zs + 1 < 1 := by omega
      have HN1 := hidH (m3 (by omega))
      have hc1 : 1 ≤ cap := by omega
      go_enter Try.func95, Try.ntmps95
      go_wp2_with fail
      refine (sLeast_any _ zs _ _ _ HV.out).mono ?_; rintro e w1 ⟨rfl, hb⟩
      have HB := hidH hb
      clear hb
      go_wp2_with fail
      refine (sIn_any (leastL zs) (-1) 6 (interOk zs) rfl _).mono ?_; rintro e w_ ⟨rfl, rfl⟩
      rw [HZ.out]
      go_wp2_with fail
      have hcal := HRES.out w1 HB.out
      rw [show (Value.slice (some ⟨bb, off, none⟩) (interN zs) cap) = Value.slice (some ⟨bb, off, none⟩) 1 cap by rw [HN1.out]] at hcal
      refine hcal.mono ?_; rintro e w2 ⟨v2, rfl, hr, hb⟩
      rw [HTL.out, HTK.out] at hr ⊢
      have HR := hidH hr
      have HB2 := hidH (HB.out.trans (hb.mono HB.out.size))
      have hsz := HB.out.size
      clear hcal hr hb
      generalize polyOk (leadW (interN zs) zs) = r at *
      go_wp2_with fail
      go_ret2
      rw [HEA.out, HEB.out]
      exact ⟨_, rfl, HR.out.mono hsz (Nat.le_refl _), HB2.out⟩
end Go.Proofs.Ytgnoclnenhmakaa
