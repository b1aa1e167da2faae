/-
  The model's search for a single error: its parts and FindError. No conditions but that slices fit in memory.
-/
import Derived.Test.YtlicihjjbojpcaaErrFm
namespace Go.Proofs.Ytlicihjjbojpcaa
set_option maxRecDepth 4000
open Go.RowKit
theorem sCoef_any (o at_ i : Nat) (ho : o ≤ 7) (ha : at_ ≤ 100) (hi : i ≤ 100) (w : World) : Calls Try.prog 80 #[.int .i64 o, .int .i64 at_, .int .i64 i] w fun e w' => e = .returned (.int .i64 (coefN o at_ i)) ∧ w = w' := by
  by_cases h1 : at_ < i
  · have HE := hidH (show coefN o at_ i = 0 by rw [coefN, if_neg (by omega)])
    go_enter Try.func80, Try.ntmps80
    go_wp2
    go_ret
    exact ⟨by rw [HE.out]; rfl, rfl⟩
  · by_cases h2 : i + o < at_
    · have HE := hidH (show coefN o at_ i = 0 by rw [coefN, if_neg (by omega)])
      have h3 : (i : Int) + (o : Int) < (at_ : Int) := by omega
      go_enter Try.func80, Try.ntmps80
      go_wp2
      go_ret
      exact ⟨by rw [HE.out]; rfl, rfl⟩
    · have HE := hidH (show coefN o at_ i = sg (i + o - at_) * chN (o : Nat) (at_ - i) by rw [coefN, if_pos (by omega)])
      obtain ⟨p, hp⟩ : ∃ p, i + o - at_ = p := ⟨_, rfl⟩
      obtain ⟨q, hq⟩ : ∃ q, at_ - i = q := ⟨_, rfl⟩
      have hp2 : (i : Int) + (o : Int) - (at_ : Int) = (p : Int) := by omega
      have hq2 : (at_ : Int) - (i : Int) = (q : Int) := by omega
      have h3 : ¬ ((i : Int) + (o : Int) < (at_ : Int)) := by omega
      have ⟨b1, b2⟩ := chN_small o (by omega) q (by omega)
      rw [hp, hq] at HE
      have HS := hidH (sSign_any p w (by omega))
      have HC := hidH (sChoose7_any o ho q (by omega) w)
      have hs := sg_abs p
      have hbp : -35 ≤ sg p * chN (o : Nat) q ∧ sg p * chN (o : Nat) q ≤ 35 := by rcases hs with e | e <;> rw [e] <;> omega
      generalize chN (o : Nat) q = c at *
      generalize sg p = s at *
      clear hp hq hs
      go_enter Try.func80, Try.ntmps80
      go_wp2_with fail
      refine HS.out.mono ?_; rintro e w1 ⟨rfl, rfl⟩
      go_wp2_with fail
      refine HC.out.mono ?_; rintro e w1 ⟨rfl, rfl⟩
      go_wp2_with fail
      go_ret
      exact ⟨by rw [HE.out]; rfl, rfl⟩
/-- The model's guess. -/
def guessS (row : List Int) (o at_ : Nat) : Int := if (row.getD (at_ - o) 0).tmod (coefN o at_ (at_ - o)) = 0 then guessN row o at_ else 0
/-- All differences are explained by an amount. -/
def explA (row : List Int) (o at_ : Nat) (a : Int) : Bool := decide (row = errL o at_ a row.length)
theorem expl_guess (row : List Int) (o at_ : Nat) (_ho : o ≤ 7) (h : at_ < row.length + o) (h0 : 0 < row.length) : explB row o at_ = (decide (guessS row o at_ ≠ 0) && explA row o at_ (guessS row o at_)) := by
  unfold guessS
  split
  · rfl
  · rename_i hm
    rw [show decide ((0 : Int) ≠ 0) = false from rfl, Bool.false_and, explB]
    cases he : decide (row = errL o at_ (guessN row o at_) row.length)
    · rw [Bool.and_false]
    · have he := of_decide_eq_true he
      exfalso
      apply hm
      have e : row.getD (at_ - o) 0 = coefN o at_ (at_ - o) * guessN row o at_ := by
        have := congrArg (fun l => l.getD (at_ - o) 0) he
        simp only [err_getD o at_ (guessN row o at_) row.length (at_ - o) (by omega)] at this
        exact this
      rw [e, Int.mul_tmod_right]
theorem guess_bd (row : List Int) (o at_ : Nat) (A : Nat) (h : ∀ x ∈ row, x.natAbs ≤ A) : (guessN row o at_).natAbs ≤ A ∧ (guessS row o at_).natAbs ≤ A := by
  have h1 : (row.getD (at_ - o) 0).natAbs ≤ A := by
    rw [List.getD_eq_getElem?_getD]
    cases hg : row[at_ - o]? with
    | none => simp
    | some z => exact h z (List.mem_of_getElem? hg)
  have h2 : (guessN row o at_).natAbs ≤ A := by
    unfold guessN
    rw [Int.natAbs_tdiv]
    exact Nat.le_trans (Nat.div_le_self _ _) h1
  refine ⟨h2, ?_⟩
  unfold guessS
  split
  · exact h2
  · simp
set_option maxHeartbeats 800000 in
theorem sGuess_any (v : Value) (row : List Int) (o at_ : Nat) (w : World) (lo hi : Nat) (hv : Lies w lo hi v row) (ho : o ≤ 7) (h : at_ < row.length + o) (hn : row.length ≤ 60) (h0 : 0 < row.length) (hbd : ∀ x ∈ row, x.natAbs ≤ 1000000000000) : Calls Try.prog 50 #[v, .int .i64 o, .int .i64 at_] w fun e w' => e = .returned (.int .i64 (guessS row o at_)) ∧ w = w' := by
  obtain ⟨b, off, cap, rfl, hlc, hcm, _, _, _, hcell⟩ := hv.addr h0
  unfold maxLen at hcm
  have HC := hidH hcell
  have HBD := hidH hbd
  clear hv hcell hbd
  go_enter Try.func50, Try.ntmps50
  go_wp2_with fail
  go_loopw [7] (fun i wr => ∃ k : Nat, k ≤ at_ - o ∧ i = .int .i64 k ∧ w = wr) (fun i _ => at_ - o + 1 - (intOf i).toNat)
  case atStart => exact ⟨0, Nat.zero_le _, rfl, rfl⟩
  case round =>
    obtain ⟨k, hk, rfl, rfl⟩ := hrel
    have hkl : k < row.length := by omega
    have HK := hidH (sCoef_any o at_ k ho (by omega) (by omega) w)
    by_cases hlt : k < at_ - o
    · have hc := coef_low o at_ k hlt
      rw [hc] at HK
      clear hc
      go_wp2_with fail
      refine HK.out.mono ?_; rintro e w1 ⟨rfl, rfl⟩
      go_wp2_with fail
      go_roundw
      case rel => exact ⟨k + 1, by omega, by go_num, by first | rfl | trivial⟩
      case measure => simp [intOf]; omega
    · obtain rfl : k = at_ - o := by omega
      obtain ⟨z, hz⟩ := get_lt row (at_ - o) hkl
      have hcz := HC.out _ z hz
      have hzb := HBD.out z (List.mem_of_getElem? hz)
      have hzd := getD_of hz
      have hne := coef_first o at_ ho
      have ⟨c1, c2⟩ := coef_bd o at_ (at_ - o) ho
      have HG := hidH (show guessS row o at_ = if z.tmod (coefN o at_ (at_ - o)) = 0 then z.tdiv (coefN o at_ (at_ - o)) else 0 by unfold guessS guessN; rw [hzd])
      generalize coefN o at_ (at_ - o) = c at *
      generalize at_ - o = p at *
      clear hz hzd
      have hneb : (c != 0) = true := bne_iff_ne.2 hne
      have hneb2 : (c == 0) = false := beq_eq_false_iff_ne.2 hne
      have hz1 : -1000000000000 ≤ z := by omega
      have hz2 : z ≤ 1000000000000 := by omega
      have hq : (z.tdiv c).natAbs ≤ 1000000000000 := by rw [Int.natAbs_tdiv]; exact Nat.le_trans (Nat.div_le_self _ _) hzb
      have hq1 : -1000000000000 ≤ z.tdiv c := by omega
      have hq2 : z.tdiv c ≤ 1000000000000 := by omega
      by_cases hm : z.tmod c = 0
      · have hmb : (z.tmod c != 0) = false := by rw [hm]; rfl
        have HG2 := hidH (HG.out.trans (if_pos hm))
        clear hq
        go_wp2_with fail
        refine HK.out.mono ?_; rintro e w1 ⟨rfl, rfl⟩
        go_wp2_with fail
        go_ret
        exact ⟨by rw [HG2.out]; rfl, rfl⟩
      · have hmb : (z.tmod c != 0) = true := bne_iff_ne.2 hm
        have hmb2 : (z.tmod c == 0) = false := beq_eq_false_iff_ne.2 hm
        have HG2 := hidH (HG.out.trans (if_neg hm))
        clear hq
        go_wp2_with fail
        refine HK.out.mono ?_; rintro e w1 ⟨rfl, rfl⟩
        go_wp2_with fail
        go_ret
        exact ⟨by rw [HG2.out]; rfl, rfl⟩
theorem eq_errL (row : List Int) (o at_ : Nat) (a : Int) (h : ∀ (j : Nat) z, j < row.length → row[j]? = some z → z = coefN o at_ j * a) : row = errL o at_ a row.length := by
  refine list_ext (by rw [errL_length]) fun i x y hx hy => ?_
  have hi := (List.getElem?_eq_some_iff.1 hx).1
  rw [errL_get o at_ a row.length i hi] at hy
  injection hy with hy
  rw [← hy]
  exact h i x hi hx
theorem ne_errL (row : List Int) (o at_ : Nat) (a : Int) (k : Nat) (z : Int) (hz : row[k]? = some z) (h : z ≠ coefN o at_ k * a) : explA row o at_ a = false := by
  refine decide_eq_false fun he => h ?_
  have hi := (List.getElem?_eq_some_iff.1 hz).1
  rw [he] at hz
  rw [errL_get o at_ a row.length k hi] at hz
  injection hz with hz
  exact hz.symm
theorem drewN_add4 (w : World) (a b : Nat) : (w.drewN a).drewN b = w.drewN (a + b) := by simp [World.drewN, Nat.add_assoc]
theorem sCoef_same (o at_ i : Nat) (ho : o ≤ 7) (ha : at_ ≤ 100) (hi : i ≤ 100) (w : World) : Calls Try.prog 80 #[.int .i64 o, .int .i64 at_, .int .i64 i] w fun e w' => e = .returned (.int .i64 (coefN o at_ i)) ∧ w' = w :=
  (sCoef_any o at_ i ho ha hi w).mono fun _ _ ⟨a, b⟩ => ⟨a, b.symm⟩
set_option maxHeartbeats 800000 in
theorem sExpl_any (v : Value) (row : List Int) (o at_ : Nat) (a : Int) (w : World) (lo hi : Nat) (hv : Lies w lo hi v row) (ho : o ≤ 7) (h : at_ ≤ 100) (hn : row.length ≤ 60) (ha : a.natAbs ≤ 1000000000000) : Calls Try.prog 51 #[v, .int .i64 o, .int .i64 at_, .int .i64 a] w fun e w' => e = .returned (.bool (explA row o at_ a)) ∧ ∃ q, w' = w.drewN q := by
  obtain ⟨ad, cap, rfl, hlc, hcm, hnil, hcell⟩ := hv
  unfold maxLen at hcm
  have HC := hidH hcell
  clear hcell hnil
  have ha1 : -1000000000000 ≤ a := by omega
  have ha2 : a ≤ 1000000000000 := by omega
  go_enter Try.func51, Try.ntmps51
  go_wp2_with fail
  go_loopw [9] (fun i wr => ∃ k q : Nat, k ≤ row.length ∧ i = .int .i64 k ∧ (∀ (j : Nat) z, j < k → row[j]? = some z → z = coefN o at_ j * a) ∧ wr = w.drewN q) (fun i _ => row.length - (intOf i).toNat)
  case atStart => exact ⟨0, 0, Nat.zero_le _, rfl, fun j z hj => absurd hj (Nat.not_lt_zero _), rfl⟩
  case round =>
    obtain ⟨k, q, hk, rfl, hs, rfl⟩ := hrel
    have HS := hidH hs
    clear hs
    by_cases hlt : k < row.length
    · obtain ⟨z, hz⟩ := get_lt row k hlt
      obtain ⟨b, off, rfl, _, _, hcz⟩ := HC.out k z hz
      have HZ := hidH hz
      have HK := hidH (fun w => sCoef_same o at_ k ho h (by omega) w)
      have ⟨c1, c2⟩ := coef_bd o at_ k ho
      have hpr := abs_mul_le (a := a) (b := coefN o at_ k) (A := 1000000000000) (B := 35) ha (by omega)
      have hp1 : -35000000000000 ≤ a * coefN o at_ k := by omega
      have hp2 : a * coefN o at_ k ≤ 35000000000000 := by omega
      have HCM := hidH (Int.mul_comm a (coefN o at_ k))
      clear hz hpr
      by_cases he : z = a * coefN o at_ k
      · have HE := hidH (show z = coefN o at_ k * a by rw [he, Int.mul_comm])
        have heb : (z != a * coefN o at_ k) = false := by rw [he]; exact bne_self_eq_false _
        generalize hcc : coefN o at_ k = c at *
        have HCC := hidH hcc
        clear hcc
        subst he
        go_wp2_with fail
        go_quiet ((go_at_call 80; exact (HK.out _).mono (fun _ _ h => ⟨h.1, _, h.2⟩)))
        go_wp2_with fail
        go_roundw
        case rel =>
          refine ⟨k + 1, _, by omega, by go_num, fun j y hj hy => ?_, by first | rfl | exact drewN_add4 _ _ _⟩
          by_cases e : j = k
          · subst e; rw [HZ.out] at hy; injection hy with hy; rw [← hy, HCC.out]; exact HE.out
          · exact HS.out j y (by omega) hy
        case measure => simp [intOf]; omega
      · have heb : (z != a * coefN o at_ k) = true := bne_iff_ne.2 he
        have heb2 : (z == a * coefN o at_ k) = false := beq_eq_false_iff_ne.2 he
        have HE := hidH (ne_errL row o at_ a k z HZ.out (fun e => he (e.trans HCM.out.symm)))
        clear he
        generalize coefN o at_ k = c at *
        go_wp2_with fail
        go_quiet ((go_at_call 80; exact (HK.out _).mono (fun _ _ h => ⟨h.1, _, h.2⟩)))
        go_wp2_with fail
        go_ret
        exact ⟨by rw [HE.out]; rfl, _, by first | rfl | exact drewN_add4 _ _ _⟩
    · obtain rfl : k = row.length := by omega
      have HE := hidH (show explA row o at_ a = true from decide_eq_true (eq_errL row o at_ a (fun j z hj hz => HS.out j z hj hz)))
      go_wp2_with fail
      go_ret
      exact ⟨by rw [HE.out]; rfl, q, rfl⟩
end Go.Proofs.Ytlicihjjbojpcaa
