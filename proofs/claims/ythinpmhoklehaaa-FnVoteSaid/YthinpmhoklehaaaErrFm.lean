/-
  The mathematics of single errors: what an error adds to differences, and that no two entries do so in the same proportion. No conditions but bounds of numbers.
-/
import Derived.Test.YthinpmhoklehaaaErrDm
namespace Go.Proofs.Ythinpmhoklehaaa
set_option maxRecDepth 4000
open Go.RowKit
/-- How an error of the entry at changes the difference with the index i. -/
def coefN (o a i : Nat) : Int := if i ≤ a ∧ a ≤ i + o then sg (i + o - a) * chN (o : Nat) (a - i) else 0
def errL (o at_ : Nat) (a : Int) (L : Nat) : List Int := (List.range L).map fun i => coefN o at_ i * a
theorem errL_length (o at_ : Nat) (a : Int) (L : Nat) : (errL o at_ a L).length = L := by simp [errL]
theorem errL_get (o at_ : Nat) (a : Int) (L i : Nat) (h : i < L) : (errL o at_ a L)[i]? = some (coefN o at_ i * a) := by simp [errL, h]
theorem chN_sym : ∀ o, o < 8 → ∀ k, k ≤ o → chN (o : Nat) k = chN (o : Nat) (o - k) := by decide
theorem coef_pat (o at_ i : Nat) (ho : o ≤ 7) (h1 : i ≤ at_) (h2 : at_ ≤ i + o) : coefN o at_ i = sg (i + o - at_) * chN (o : Nat) (i + o - at_) := by
  rw [coefN, if_pos ⟨h1, h2⟩, chN_sym o (by omega) (at_ - i) (by omega), show o - (at_ - i) = i + o - at_ by omega]
theorem coef_shift (o a i s : Nat) : coefN o (a + s) (i + s) = coefN o a i := by
  unfold coefN
  by_cases h : i ≤ a ∧ a ≤ i + o
  · rw [if_pos h, if_pos (by omega), show i + s + o - (a + s) = i + o - a by omega, show a + s - (i + s) = a - i by omega]
  · rw [if_neg h, if_neg (by omega)]
theorem coef_bd (o at_ i : Nat) (ho : o ≤ 7) : -35 ≤ coefN o at_ i ∧ coefN o at_ i ≤ 35 := by
  unfold coefN
  split
  · rename_i h
    have ⟨h1, h2⟩ := chN_small o (by omega) (at_ - i) (by omega)
    rcases sg_abs (i + o - at_) with e | e <;> rw [e] <;> omega
  · omega
theorem coef_low (o at_ i : Nat) (h : i < at_ - o) : coefN o at_ i = 0 := by rw [coefN, if_neg (by omega)]
theorem chN_pos : ∀ o, o < 8 → ∀ k, k ≤ o → 1 ≤ chN (o : Nat) k := by decide
theorem coef_first (o at_ : Nat) (ho : o ≤ 7) : coefN o at_ (at_ - o) ≠ 0 := by
  rw [coefN, if_pos (by omega)]
  have := chN_pos o (by omega) (at_ - (at_ - o)) (by omega)
  rcases sg_abs (at_ - o + o - at_) with e | e <;> rw [e] <;> omega
/-- The first difference that an error changes. -/
theorem errL_first (o at_ : Nat) (a : Int) (L : Nat) (ho : o ≤ 7) (ha : a ≠ 0) (h : at_ < L + o) (hL : 0 < L) : fnz (errL o at_ a L) = at_ - o := by
  refine fnz_eq _ _ (by rw [errL_length]; omega) (fun j z hj hz => ?_) (fun z hz => ?_)
  · rw [errL_get o at_ a L j (by omega)] at hz
    injection hz with hz
    rw [← hz, coef_low o at_ j hj, Int.zero_mul]
  · rw [errL_get o at_ a L _ (by omega)] at hz
    injection hz with hz
    rw [← hz]
    exact Int.mul_ne_zero (coef_first o at_ ho) ha
/-! ### Syndromes -/
/-- The first of two numbers that is not 0. -/
def orI (x y : Int) : Int := if x = 0 then y else x
/-- The common divisor, with the sign of the first number that is not 0. -/
def divI (x y : Int) : Int := if orI x y < 0 then -((Int.gcd x y : Nat) : Int) else ((Int.gcd x y : Nat) : Int)
theorem divI_pos (x y : Int) (h : x ≠ 0 ∨ y ≠ 0) : divI x y ≠ 0 := by
  have hg : Int.gcd x y ≠ 0 := by
    intro e
    have := Int.gcd_eq_zero_iff.1 e
    omega
  unfold divI
  split <;> omega
theorem divI_dvd (x y : Int) : divI x y ∣ x ∧ divI x y ∣ y := by
  have h1 := Int.gcd_dvd_left (a := x) (b := y)
  have h2 := Int.gcd_dvd_right (a := x) (b := y)
  unfold divI
  split
  · exact ⟨Int.neg_dvd.2 h1, Int.neg_dvd.2 h2⟩
  · exact ⟨h1, h2⟩
theorem orI_mul (x y a : Int) (ha : a ≠ 0) : orI (x * a) (y * a) = orI x y * a := by
  unfold orI
  by_cases h : x = 0
  · subst h; rw [Int.zero_mul, if_pos rfl, if_pos rfl]
  · rw [if_neg h, if_neg (Int.mul_ne_zero h ha)]
theorem divI_mul (x y a : Int) (ha : a ≠ 0) (hxy : x ≠ 0 ∨ y ≠ 0) : divI (x * a) (y * a) = divI x y * a := by
  have hg : Int.gcd (x * a) (y * a) = Int.gcd x y * a.natAbs := Int.gcd_mul_right x a y
  have ho : orI x y ≠ 0 := by unfold orI; split <;> omega
  unfold divI
  rw [orI_mul x y a ha, hg]
  have hcast : ((Int.gcd x y * a.natAbs : Nat) : Int) = (Int.gcd x y : Int) * (a.natAbs : Int) := by rw [Int.natCast_mul]
  rw [hcast]
  rcases Int.lt_or_gt_of_ne ha with h | h
  · have e : (a.natAbs : Int) = -a := by omega
    rw [e]
    rcases Int.lt_or_gt_of_ne ho with h2 | h2
    · rw [if_neg (by have := Int.mul_pos_of_neg_of_neg h2 h; omega), if_pos h2, Int.mul_neg, Int.neg_mul]
    · rw [if_pos (Int.mul_neg_of_pos_of_neg h2 h), if_neg (by omega), Int.mul_neg, Int.neg_neg]
  · have e : (a.natAbs : Int) = a := by omega
    rw [e]
    rcases Int.lt_or_gt_of_ne ho with h2 | h2
    · rw [if_pos (Int.mul_neg_of_neg_of_pos h2 h), if_pos h2, Int.neg_mul]
    · rw [if_neg (by have := Int.mul_pos h2 h; omega), if_neg (by omega)]
theorem tdiv_dvd {D x : Int} (_hD : D ≠ 0) (h : D ∣ x) : D * x.tdiv D = x := Int.mul_tdiv_cancel' h
/-- What two neighbors tell of an error. -/
def synP (x y : Int) : Int × Int := (x.tdiv (divI x y), y.tdiv (divI x y))
theorem synP_mul (x y a : Int) (ha : a ≠ 0) (hxy : x ≠ 0 ∨ y ≠ 0) : synP (x * a) (y * a) = synP x y := by
  have hD := divI_pos x y hxy
  have ⟨h1, h2⟩ := divI_dvd x y
  obtain ⟨p, hp⟩ := h1
  obtain ⟨q, hq⟩ := h2
  unfold synP
  rw [divI_mul x y a ha hxy]
  have hDa : divI x y * a ≠ 0 := Int.mul_ne_zero hD ha
  have e1 : x * a = divI x y * a * p := by
    have : x * a = divI x y * p * a := by rw [← hp]
    rw [this, Int.mul_assoc, Int.mul_comm p a, ← Int.mul_assoc]
  have e2 : y * a = divI x y * a * q := by
    have : y * a = divI x y * q * a := by rw [← hq]
    rw [this, Int.mul_assoc, Int.mul_comm q a, ← Int.mul_assoc]
  have f1 : x.tdiv (divI x y) = p := by
    have := Int.mul_tdiv_cancel_left p hD
    rw [← hp] at this; exact this
  have f2 : y.tdiv (divI x y) = q := by
    have := Int.mul_tdiv_cancel_left q hD
    rw [← hq] at this; exact this
  rw [f1, f2, e1, e2, Int.mul_tdiv_cancel_left _ hDa, Int.mul_tdiv_cancel_left _ hDa]
theorem synP_cross {x y x' y' : Int} (h0 : x ≠ 0 ∨ y ≠ 0) (h1 : x' ≠ 0 ∨ y' ≠ 0) (h : synP x y = synP x' y') : x * y' = x' * y := by
  have ha := divI_pos x y h0
  have hb := divI_pos x' y' h1
  have ⟨a1, a2⟩ := divI_dvd x y
  have ⟨b1, b2⟩ := divI_dvd x' y'
  have e1 := tdiv_dvd ha a1
  have e2 := tdiv_dvd ha a2
  have e3 := tdiv_dvd hb b1
  have e4 := tdiv_dvd hb b2
  unfold synP at h
  injection h with h2 h3
  rw [h2] at e1
  rw [h3] at e2
  generalize x'.tdiv (divI x' y') = p at *
  generalize y'.tdiv (divI x' y') = q at *
  clear h2 h3 a1 a2 b1 b2 ha hb
  generalize divI x y = s at e1 e2
  generalize divI x' y' = t at e3 e4
  rw [← e1, ← e2, ← e3, ← e4]
  ac_rfl
/-- The place of the first of the two neighbors. -/
def synAt (row : List Int) : Nat := min (fnz row) (row.length - 2)
def synX (row : List Int) : Int := row.getD (synAt row) 0
def synY (row : List Int) : Int := row.getD (synAt row + 1) 0
theorem getD_nz (row : List Int) (h : fnz row < row.length) : row.getD (fnz row) 0 ≠ 0 := by
  induction row with
  | nil => simp at h
  | cons x l ih =>
    rw [fnz] at h ⊢
    split
    · rename_i hx
      rw [if_pos hx] at h
      simpa using ih (by simpa using h)
    · rename_i hx; simpa using hx
theorem syn_nz (row : List Int) (h2 : 2 ≤ row.length) (h : fnz row < row.length) : synX row ≠ 0 ∨ synY row ≠ 0 := by
  have hn := getD_nz row h
  unfold synX synY synAt
  by_cases e : fnz row ≤ row.length - 2
  · rw [Nat.min_eq_left e]; exact .inl hn
  · rw [Nat.min_eq_right (by omega), show row.length - 2 + 1 = fnz row by omega]; exact .inr hn
/-- The syndrome of a row of differences. -/
def synL (row : List Int) : Nat × (Int × Int) := (synAt row, synP (synX row) (synY row))
/-- The syndrome of an error. -/
def unitS (o at_ L : Nat) : Nat × (Int × Int) := synL (errL o at_ 1 L)
theorem err_getD (o at_ : Nat) (a : Int) (L i : Nat) (h : i < L) : (errL o at_ a L).getD i 0 = coefN o at_ i * a := getD_of (errL_get o at_ a L i h)
theorem syn_err (o at_ : Nat) (a : Int) (L : Nat) (ho : o ≤ 7) (ha : a ≠ 0) (h : at_ < L + o) (hL : 2 ≤ L) : synL (errL o at_ a L) = unitS o at_ L := by
  have f1 := errL_first o at_ a L ho ha h (by omega)
  have f2 := errL_first o at_ 1 L ho (by decide) h (by omega)
  have hA : synAt (errL o at_ a L) = synAt (errL o at_ 1 L) := by unfold synAt; rw [f1, f2, errL_length, errL_length]
  have hnz := syn_nz (errL o at_ 1 L) (by rw [errL_length]; exact hL) (by rw [f2, errL_length]; omega)
  have hlt : synAt (errL o at_ 1 L) + 1 < L := by unfold synAt; rw [errL_length]; omega
  have e1 : synX (errL o at_ a L) = synX (errL o at_ 1 L) * a := by unfold synX; rw [hA, err_getD _ _ _ _ _ (by omega), err_getD _ _ _ _ _ (by omega), Int.mul_one]
  have e2 : synY (errL o at_ a L) = synY (errL o at_ 1 L) * a := by unfold synY; rw [hA, err_getD _ _ _ _ _ (by omega), err_getD _ _ _ _ _ (by omega), Int.mul_one]
  unfold unitS synL
  rw [hA, e1, e2, synP_mul _ _ a ha hnz]
theorem coef_all : ((List.range 8).all fun o => (List.range 9).all fun m => (List.range 9).all fun k => decide (o = 0) || decide (o + 1 < m) || decide (o + 1 < k) || decide (m = k) || !decide (coefN o m 0 * coefN o k 1 = coefN o k 0 * coefN o m 1)) = true := by decide
theorem coef_two (o : Nat) (ho : o < 8) (h1 : 1 ≤ o) (m : Nat) (hm9 : m < 9) (hm : m ≤ o + 1) (k : Nat) (hk9 : k < 9) (hk : k ≤ o + 1) (h : coefN o m 0 * coefN o k 1 = coefN o k 0 * coefN o m 1) : m = k := by
  have e1 := List.all_eq_true.1 coef_all o (List.mem_range.2 ho)
  have e2 := List.all_eq_true.1 e1 m (List.mem_range.2 hm9)
  have e3 := List.all_eq_true.1 e2 k (List.mem_range.2 hk9)
  rw [decide_eq_false (show ¬o = 0 by omega), decide_eq_false (show ¬o + 1 < m by omega), decide_eq_false (show ¬o + 1 < k by omega), decide_eq_true h] at e3
  simpa using e3
theorem unit_parts (o at_ L : Nat) (ho : o ≤ 7) (h : at_ < L + o) (hL : 2 ≤ L) : ∃ m, m ≤ o + 1 ∧ at_ = synAt (errL o at_ 1 L) + m ∧ synX (errL o at_ 1 L) = coefN o m 0 ∧ synY (errL o at_ 1 L) = coefN o m 1 := by
  have f2 := errL_first o at_ 1 L ho (by decide) h (by omega)
  have hA : synAt (errL o at_ 1 L) = min (at_ - o) (L - 2) := by unfold synAt; rw [f2, errL_length]
  have hlt : synAt (errL o at_ 1 L) + 1 < L := by rw [hA]; omega
  refine ⟨at_ - synAt (errL o at_ 1 L), by rw [hA]; omega, by rw [hA]; omega, ?_, ?_⟩
  · unfold synX
    rw [err_getD _ _ _ _ _ (by omega), Int.mul_one]
    generalize hs : synAt (errL o at_ 1 L) = s at *
    have := coef_shift o (at_ - s) 0 s
    rw [Nat.zero_add, show at_ - s + s = at_ by omega] at this
    exact this
  · unfold synY
    rw [err_getD _ _ _ _ _ (by omega), Int.mul_one]
    generalize hs : synAt (errL o at_ 1 L) = s at *
    have := coef_shift o (at_ - s) 1 s
    rw [show 1 + s = s + 1 by omega, show at_ - s + s = at_ by omega] at this
    exact this
/-- No two entries have the same syndrome. -/
theorem unit_inj (o a b L : Nat) (h1 : 1 ≤ o) (ho : o ≤ 7) (ha : a < L + o) (hb : b < L + o) (hL : 2 ≤ L) (h : unitS o a L = unitS o b L) : a = b := by
  obtain ⟨m, hm, ea, xa, ya⟩ := unit_parts o a L ho ha hL
  obtain ⟨n, hn, eb, xb, yb⟩ := unit_parts o b L ho hb hL
  have nza := syn_nz (errL o a 1 L) (by rw [errL_length]; exact hL) (by rw [errL_first o a 1 L ho (by decide) ha (by omega), errL_length]; omega)
  have nzb := syn_nz (errL o b 1 L) (by rw [errL_length]; exact hL) (by rw [errL_first o b 1 L ho (by decide) hb (by omega), errL_length]; omega)
  unfold unitS synL at h
  injection h with h2 h3
  have hc := synP_cross nza nzb h3
  rw [xa, ya, xb, yb] at hc
  have := coef_two o (by omega) h1 m (by omega) hm n (by omega) hn hc
  omega
/-! ### The search -/
/-- The amount of an error that makes the first difference that it changes, rounded. -/
def guessN (row : List Int) (o at_ : Nat) : Int := (row.getD (at_ - o) 0).tdiv (coefN o at_ (at_ - o))
/-- An error of an entry explains all differences. -/
def explB (row : List Int) (o at_ : Nat) : Bool := decide (guessN row o at_ ≠ 0) && decide (row = errL o at_ (guessN row o at_) row.length)
theorem guess_err (o at_ : Nat) (a : Int) (L : Nat) (ho : o ≤ 7) (h : at_ < L + o) (hL : 0 < L) : guessN (errL o at_ a L) o at_ = a := by
  unfold guessN
  rw [err_getD _ _ _ _ _ (by omega), Int.mul_tdiv_cancel_left _ (coef_first o at_ ho)]
theorem expl_syn (row : List Int) (o at_ : Nat) (ho : o ≤ 7) (h : at_ < row.length + o) (hL : 2 ≤ row.length) (he : explB row o at_ = true) : synL row = unitS o at_ row.length := by
  unfold explB at he
  rw [Bool.and_eq_true, decide_eq_true_eq, decide_eq_true_eq] at he
  have := syn_err o at_ (guessN row o at_) row.length ho he.1 h hL
  rw [← he.2] at this
  exact this
theorem expl_one (row : List Int) (o a b : Nat) (h1 : 1 ≤ o) (ho : o ≤ 7) (ha : a < row.length + o) (hb : b < row.length + o) (hL : 2 ≤ row.length) (ea : explB row o a = true) (eb : explB row o b = true) : a = b :=
  unit_inj o a b row.length h1 ho ha hb hL ((expl_syn row o a ho ha hL ea).symm.trans (expl_syn row o b ho hb hL eb))
/-- The first entry from a on, of m, that explains all differences. -/
def seekE (row : List Int) (o : Nat) : Nat → Nat → Option Nat
  | 0, _ => none
  | m + 1, a => if explB row o a then some a else seekE row o m (a + 1)
theorem seekE_some (row : List Int) (o : Nat) : ∀ (m a k : Nat), seekE row o m a = some k → a ≤ k ∧ k < a + m ∧ explB row o k = true := by
  intro m
  induction m with
  | zero => intro a k h; cases h
  | succ m ih =>
    intro a k h
    rw [seekE] at h
    split at h
    · rename_i he; injection h with h; subst h; exact ⟨Nat.le_refl _, by omega, he⟩
    · have ⟨h1, h2, h3⟩ := ih (a + 1) k h
      exact ⟨by omega, by omega, h3⟩
theorem seekE_none (row : List Int) (o : Nat) : ∀ (m a k : Nat), seekE row o m a = none → a ≤ k → k < a + m → explB row o k = false := by
  intro m
  induction m with
  | zero => intro a k _ h1 h2; omega
  | succ m ih =>
    intro a k h h1 h2
    rw [seekE] at h
    split at h
    · cases h
    · rename_i he
      by_cases e : k = a
      · subst e; simpa using he
      · exact ih (a + 1) k h (by omega) (by omega)
/-- What FindError looks for: the entry that explains the differences. -/
def findO (row : List Int) (o : Nat) : Option Nat := seekE row o (row.length + o) 0
theorem findO_at (row : List Int) (o k : Nat) (h1 : 1 ≤ o) (ho : o ≤ 7) (hk : k < row.length + o) (hL : 2 ≤ row.length) (h : explB row o k = true) : findO row o = some k := by
  unfold findO
  cases e : seekE row o (row.length + o) 0 with
  | none => rw [seekE_none row o _ _ k e (Nat.zero_le _) (by omega)] at h; cases h
  | some j =>
    have ⟨_, hj, hej⟩ := seekE_some row o _ _ _ e
    rw [expl_one row o j k h1 ho (by omega) hk hL hej h]
theorem findO_not (row : List Int) (o k : Nat) (ho : o ≤ 7) (h1 : 1 ≤ o) (hk : k < row.length + o) (hL : 2 ≤ row.length) (hs : unitS o k row.length = synL row) (h : explB row o k = false) : findO row o = none := by
  unfold findO
  cases e : seekE row o (row.length + o) 0 with
  | none => rfl
  | some j =>
    have ⟨_, hj, hej⟩ := seekE_some row o _ _ _ e
    have hs2 := expl_syn row o j ho (by omega) hL hej
    have : k = j := unit_inj o k j row.length h1 ho hk (by omega) hL (hs.trans hs2)
    rw [← this, h] at hej; cases hej
theorem findO_miss (row : List Int) (o : Nat) (ho : o ≤ 7) (hL : 2 ≤ row.length) (h : ∀ k, k < row.length + o → unitS o k row.length ≠ synL row) : findO row o = none := by
  unfold findO
  cases e : seekE row o (row.length + o) 0 with
  | none => rfl
  | some j =>
    have ⟨_, hj, hej⟩ := seekE_some row o _ _ _ e
    exact absurd (expl_syn row o j ho (by omega) hL hej).symm (h j (by omega))
end Go.Proofs.Ythinpmhoklehaaa
