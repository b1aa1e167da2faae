/-
  FindError: the model, at every argument. No conditions but that slices fit in memory.
-/
import Derived.Test.YtlicihjjbojpcaaErrI
import Derived.Test.YtlicihjjbojpcaaErrA
import Derived.Test.YtlicihjjbojpcaaPolyAn
namespace Go.Proofs.Ytlicihjjbojpcaa
set_option maxRecDepth 4000
open Go.RowKit
/-- What FindError tells of differences: none, an error, many. -/
def findA (row : List Int) (o : Nat) : Int := if zeroOk row then 0 else match findO row o with | some k => (k : Int) | none => 0
def findM (row : List Int) (o : Nat) : Int := if zeroOk row then 0 else match findO row o with | some k => guessN row o k | none => 0
def findK (row : List Int) (o : Nat) : Int := if zeroOk row then 0 else match findO row o with | some _ => 1 | none => 2
/-- A table with enough entries for a degree. -/
def longOk (zs : List Int) (d : Int) : Bool := decide (d + 3 ≤ (zs.length : Int))
def findOk (zs : List Int) (d : Int) : Bool := tableOk zs && (degOk d && longOk zs d)
def findRow (zs : List Int) (d : Int) : List Int := difN (d.toNat + 1) zs
def findAt (zs : List Int) (d : Int) : Int := if findOk zs d then findA (findRow zs d) (d.toNat + 1) else 0
def findAm (zs : List Int) (d : Int) : Int := if findOk zs d then findM (findRow zs d) (d.toNat + 1) else 0
def findKd (zs : List Int) (d : Int) : Int := if findOk zs d then findK (findRow zs d) (d.toNat + 1) else 3
/-- A call that answers three numbers. -/
def Gives3 (a b c : Int) (w : World) (e : Ending) (w' : World) : Prop := e = .returned (.tuple #[.int .i64 a, .int .i64 b, .int .i64 c]) ∧ Below w.heap.size w w'
theorem expl_eq {row : List Int} {o k : Nat} (ho : o ≤ 7) (h : k < row.length + o) (h0 : 0 < row.length) (e : explA row o k (guessS row o k) = true) : guessN row o k = guessS row o k := by
  have := of_decide_eq_true e
  have hg := guess_err o k (guessS row o k) row.length ho h h0
  rw [← this] at hg
  exact hg
theorem find_hit {row : List Int} {o k : Nat} (hz : zeroOk row = false) (h : findO row o = some k) : findA row o = (k : Int) ∧ findM row o = guessN row o k ∧ findK row o = 1 := by
  unfold findA findM findK
  rw [hz, h]; exact ⟨rfl, rfl, rfl⟩
theorem find_miss {row : List Int} {o : Nat} (hz : zeroOk row = false) (h : findO row o = none) : findA row o = 0 ∧ findM row o = 0 ∧ findK row o = 2 := by
  unfold findA findM findK
  rw [hz, h]; exact ⟨rfl, rfl, rfl⟩
theorem find_zero {row : List Int} {o : Nat} (hz : zeroOk row = true) : findA row o = 0 ∧ findM row o = 0 ∧ findK row o = 0 := by
  unfold findA findM findK
  rw [hz]; exact ⟨rfl, rfl, rfl⟩
theorem findRow_bd (zs : List Int) (d : Int) (h : tableOk zs = true) (hd : d.toNat ≤ 6) : ∀ x ∈ findRow zs d, x.natAbs ≤ 1000000000000 := by
  intro x hx
  have h2 : (2 : Nat) ^ (d.toNat + 1) ≤ 2 ^ 7 := Nat.pow_le_pow_right (by decide) (by omega)
  have := difN_bd zs 1000000000 (tab_abs zs h) (d.toNat + 1) (by omega) x hx
  omega
theorem sFind_no (v0 : Value) (zs0 : List Int) (n1 : Int) (w : World) (lo0 hi0 : Nat) (hv0 : Lies w lo0 hi0 v0 zs0) (h : (((tableOk zs0) && ((degOk n1) && (longOk zs0 n1)))) = false) : Calls Try.prog 11 #[v0, .int .i64 n1] w (Gives3 0 0 3 w) := by
  have HV0_0 := hidH hv0
  obtain ⟨a0, cap0, rfl, hlc0, hcm0, hnil0, hcell0⟩ := hv0
  clear hnil0 hcell0
  unfold maxLen at hcm0
  have HB0 := hidH (Below.refl w.heap.size w)
  cases hc0 : tableOk zs0
  · have HC0 := hidH hc0
    clear h hc0
    go_enter Try.func11, Try.ntmps11
    go_wp2_with fail
    refine (sTableValid_gives _ zs0 _ _ _ HV0_0.out).mono ?_; rintro e w1 ⟨rfl, hb⟩
    have HV0_1 := hidH (HV0_0.out.below hb)
    clear HV0_0
    have HB1 := hidH (HB0.out.trans (hb.mono HB0.out.size))
    clear hb HB0
    rw [HC0.out]
    go_wp2_with fail
    ((try simp only [Exit.inBlock, Exit.then]); refine bodyPost_ret (results_tmp3 rfl _ _ _) rfl ?_)
    exact ⟨rfl, HB1.out⟩
  · rw [hc0, Bool.true_and] at h
    have HC0 := hidH hc0
    clear hc0
    cases hc1 : degOk n1
    · have HC1 := hidH hc1
      clear h hc1
      go_enter Try.func11, Try.ntmps11
      go_wp2_with fail
      refine (sTableValid_gives _ zs0 _ _ _ HV0_0.out).mono ?_; rintro e w1 ⟨rfl, hb⟩
      have HV0_1 := hidH (HV0_0.out.below hb)
      clear HV0_0
      have HB1 := hidH (HB0.out.trans (hb.mono HB0.out.size))
      clear hb HB0
      rw [HC0.out]
      go_wp2_with fail
      refine (sDeg4_any n1 _).mono ?_; rintro e w_ ⟨rfl, rfl⟩
      rw [HC1.out]
      go_wp2_with fail
      ((try simp only [Exit.inBlock, Exit.then]); refine bodyPost_ret (results_tmp3 rfl _ _ _) rfl ?_)
      exact ⟨rfl, HB1.out⟩
    · rw [hc1, Bool.true_and] at h
      have HC1 := hidH hc1
      clear hc1
      have ⟨hd1, hd2⟩ := of_decide_eq_true HC1.out
      · have HC2 := hidH h
        clear h
        have hcc := of_decide_eq_false HC2.out
        have hcf : (zs0.length : Int) < n1 + 3 := by omega
        clear hcc
        go_enter Try.func11, Try.ntmps11
        go_wp2_with fail
        refine (sTableValid_gives _ zs0 _ _ _ HV0_0.out).mono ?_; rintro e w1 ⟨rfl, hb⟩
        have HV0_1 := hidH (HV0_0.out.below hb)
        clear HV0_0
        have HB1 := hidH (HB0.out.trans (hb.mono HB0.out.size))
        clear hb HB0
        rw [HC0.out]
        go_wp2_with fail
        refine (sDeg4_any n1 _).mono ?_; rintro e w_ ⟨rfl, rfl⟩
        rw [HC1.out]
        go_wp2_with fail
        ((try simp only [Exit.inBlock, Exit.then]); refine bodyPost_ret (results_tmp3 rfl _ _ _) rfl ?_)
        exact ⟨rfl, HB1.out⟩
set_option maxHeartbeats 1600000 in
theorem sFind_yes (v0 : Value) (zs0 : List Int) (n1 : Int) (w : World) (lo0 hi0 : Nat) (hv0 : Lies w lo0 hi0 v0 zs0) (hc0 : (tableOk zs0) = true) (hc1 : (degOk n1) = true) (hc2 : (longOk zs0 n1) = true) : Calls Try.prog 11 #[v0, .int .i64 n1] w (Gives3 (findA (findRow zs0 n1) (n1.toNat + 1)) (findM (findRow zs0 n1) (n1.toNat + 1)) (findK (findRow zs0 n1) (n1.toNat + 1)) w) := by
  have HV0_0 := hidH hv0
  obtain ⟨a0, cap0, rfl, hlc0, hcm0, hnil0, hcell0⟩ := hv0
  clear hnil0 hcell0
  unfold maxLen at hcm0
  have HB0 := hidH (Below.refl w.heap.size w)
  have HC0 := hidH hc0
  have HC1 := hidH hc1
  have HC2 := hidH hc2
  clear hc0 hc1 hc2
  have ⟨hd1, hd2⟩ := of_decide_eq_true HC1.out
  have ht2_0 := of_decide_eq_true HC2.out
  have ⟨tl1, tl2⟩ := tableOk_len _ HC0.out
  go_enter Try.func11, Try.ntmps11
  go_wp2_with fail
  refine (sTableValid_gives _ zs0 _ _ _ HV0_0.out).mono ?_; rintro e w1 ⟨rfl, hb⟩
  have HV0_1 := hidH (HV0_0.out.below hb)
  clear HV0_0
  have HB1 := hidH (HB0.out.trans (hb.mono HB0.out.size))
  clear hb HB0
  rw [HC0.out]
  go_wp2_with fail
  refine (sDeg4_any n1 _).mono ?_; rintro e w_ ⟨rfl, rfl⟩
  rw [HC1.out]
  have HK := hidH (sRow4_any (.slice a0 zs0.length cap0) zs0 (n1.toNat + 1) w1 _ _ HV0_1.out (by omega) (by omega))
  have HOC := hidH (show ((n1.toNat + 1 : Nat) : Int) = n1 + 1 by omega)
  rw [HOC.out] at HK
  go_wp2_with fail
  refine HK.out.mono ?_; rintro e wy ⟨rv, rfl, hlr, hb⟩
  have HBZ := hidH (HB1.out.trans (hb.mono HB1.out.size))
  have HRL := hidH (show (findRow zs0 n1).length = zs0.length - (n1.toNat + 1) from difN_length _ _)
  have HRB := hidH (findRow_bd zs0 n1 HC0.out (by omega))
  change Lies wy 0 wy.heap.size rv (findRow zs0 n1) at hlr
  have HVR := hidH hlr
  have HO1 := hidH (show n1.toNat + 1 ≤ 7 by omega)
  clear hb hlr HK
  generalize findRow zs0 n1 = row at *
  generalize ho : n1.toNat + 1 = o at *
  clear ho
  go_wp2_with fail
  refine (sZero_any rv row _ _ _ HVR.out).mono ?_; rintro e wx ⟨rfl, rfl⟩
  cases hz : zeroOk row
  · have HZ := hidH hz
    clear hz
    have HL3 := hidH (show row.length + o = zs0.length ∧ 2 ≤ row.length ∧ row.length ≤ 60 by have := HRL.out; have := HOC.out; omega)
    go_wp2_with fail
    go_loopw [8] (fun c wr => ∃ k q : Nat, k ≤ zs0.length ∧ c = .int .i64 k ∧ seekE row o (zs0.length - k) k = findO row o ∧ wr = wy.drewN q) (fun c _ => zs0.length - (intOf c).toNat)
    case atStart => exact ⟨0, 0, Nat.zero_le _, rfl, by rw [findO, HL3.out.1]; rfl, rfl⟩
    case round =>
      obtain ⟨k, q, hk, rfl, hs, rfl⟩ := hrel
      have HS := hidH hs
      clear hs
      by_cases hlt : k < zs0.length
      · have ⟨l1, l2, l3⟩ := HL3.out
        have hlq : ∀ q, Lies (wy.drewN q) 0 (wy.drewN q).heap.size rv row := fun q => HVR.out.below (below_drewN (Below.refl _ _) q)
        have HG := hidH (fun q => sGuess_any rv row o k (wy.drewN q) _ _ (hlq q) HO1.out (by omega) (by omega) (by omega) HRB.out)
        have HX := hidH (expl_guess row o k HO1.out (by omega) (by omega))
        have HXE := hidH (expl_eq (row := row) (o := o) (k := k) HO1.out (by omega) (by omega))
        have hgb := (guess_bd row o k 1000000000000 HRB.out).2
        have HE := hidH (fun q => sExpl_any rv row o k (guessS row o k) (wy.drewN q) _ _ (hlq q) HO1.out (by omega) (by omega) hgb)
        have HSK := hidH (show seekE row o (zs0.length - k) k = if explB row o k then some k else seekE row o (zs0.length - (k + 1)) (k + 1) by
          rw [show zs0.length - k = (zs0.length - (k + 1)) + 1 by omega]; rfl)
        rw [HOC.out] at HG HE
        have hg1 : -1000000000000 ≤ guessS row o k := by omega
        have hg2 : guessS row o k ≤ 1000000000000 := by omega
        clear hgb hlq l1 l2 l3
        by_cases h0 : guessS row o k = 0
        · have HX2 := hidH (show explB row o k = false by rw [HX.out, h0]; rfl)
          have h0b : (guessS row o k != 0) = false := by rw [h0]; rfl
          clear HE HXE h0
          generalize guessS row o k = g at *
          go_wp2_with fail
          refine (HG.out q).mono ?_; rintro e w5 ⟨rfl, rfl⟩
          go_wp2_with fail
          go_roundw
          case rel => exact ⟨k + 1, q, by omega, by go_num, by rw [← HS.out, HSK.out, HX2.out]; rfl, rfl⟩
          case measure => simp [intOf]; omega
        · have h0b : (guessS row o k != 0) = true := bne_iff_ne.2 h0
          have h0c : (guessS row o k == 0) = false := beq_eq_false_iff_ne.2 h0
          have HX3 := hidH (show explB row o k = explA row o k (guessS row o k) by rw [HX.out, decide_eq_true h0, Bool.true_and])
          clear HX h0
          cases he : explA row o k (guessS row o k)
          · have HX2 := hidH (HX3.out.trans he)
            rw [he] at HE
            clear HX3 HXE he
            generalize guessS row o k = g at *
            go_wp2_with fail
            refine (HG.out q).mono ?_; rintro e w5 ⟨rfl, rfl⟩
            go_wp2_with fail
            refine (HE.out q).mono ?_; rintro e w5 ⟨rfl, q2, rfl⟩
            go_wp2_with fail
            go_roundw
            case rel => exact ⟨k + 1, _, by omega, by go_num, by rw [← HS.out, HSK.out, HX2.out]; rfl, by first | rfl | exact drewN_add4 _ _ _⟩
            case measure => simp [intOf]; omega
          · have HX2 := hidH (HX3.out.trans he)
            have HGE := hidH (HXE.out he)
            have HFO := hidH (show findO row o = some k by rw [← HS.out, HSK.out, HX2.out]; rfl)
            rw [he] at HE
            clear HX3 HXE he
            generalize guessS row o k = g at *
            go_wp2_with fail
            refine (HG.out q).mono ?_; rintro e w5 ⟨rfl, rfl⟩
            go_wp2_with fail
            refine (HE.out q).mono ?_; rintro e w5 ⟨rfl, q2, rfl⟩
            go_wp2_with fail
            ((try simp only [Exit.inBlock, Exit.then]); refine bodyPost_ret (results_tmp3 rfl _ _ _) rfl ?_)
            obtain ⟨e1, e2, e3⟩ := find_hit HZ.out HFO.out
            rw [e1, e2, e3, HGE.out]
            exact ⟨rfl, by first | exact below_drewN HBZ.out _ | (rw [drewN_add4]; exact below_drewN HBZ.out _)⟩
      · obtain rfl : k = zs0.length := by omega
        have HFO := hidH (show findO row o = none by rw [← HS.out, Nat.sub_self]; rfl)
        go_wp2_with fail
        ((try simp only [Exit.inBlock, Exit.then]); refine bodyPost_ret (results_tmp3 rfl _ _ _) rfl ?_)
        obtain ⟨e1, e2, e3⟩ := find_miss HZ.out HFO.out
        rw [e1, e2, e3]
        exact ⟨rfl, below_drewN HBZ.out q⟩
  · have HZ := hidH hz
    clear hz
    go_wp2_with fail
    ((try simp only [Exit.inBlock, Exit.then]); refine bodyPost_ret (results_tmp3 rfl _ _ _) rfl ?_)
    obtain ⟨e1, e2, e3⟩ := find_zero (row := row) (o := o) HZ.out
    rw [e1, e2, e3]
    exact ⟨rfl, HBZ.out⟩
theorem sFind_any (v0 : Value) (zs0 : List Int) (n1 : Int) (w : World) (lo0 hi0 : Nat) (hv0 : Lies w lo0 hi0 v0 zs0) : Calls Try.prog 11 #[v0, .int .i64 n1] w (Gives3 (findAt zs0 n1) (findAm zs0 n1) (findKd zs0 n1) w) := by
  unfold findAt findAm findKd
  cases h : findOk zs0 n1
  · exact sFind_no v0 zs0 n1 w lo0 hi0 hv0 h
  · have h2 := h
    unfold findOk at h2
    rw [Bool.and_eq_true, Bool.and_eq_true] at h2
    exact sFind_yes v0 zs0 n1 w lo0 hi0 hv0 h2.1 h2.2.1 h2.2.2
end Go.Proofs.Ytlicihjjbojpcaa
