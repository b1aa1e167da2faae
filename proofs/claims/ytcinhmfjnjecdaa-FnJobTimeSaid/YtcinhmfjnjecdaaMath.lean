/-
  Plain mathematics of columns of wheels, without a program: the digits of a number, the number of digits, sums of digits with carries. No conditions.
  Plain mathematics of carries, without a program: carries in sequence end, what a turn does to the texts of columns, and what carrying at once adds. No conditions.
  Turning columns forth and back, as lists: what a turn back undoes, and what is set up askew. No conditions.
-/

namespace Go.Proofs.Ytcinhmfjnjecdaa

/-- 10 to the power of w. -/
def tenP : Nat → Int
  | 0 => 1
  | w + 1 => 10 * tenP w
theorem tenP_pos (w : Nat) : 0 < tenP w := by
  induction w with
  | zero => simp [tenP]
  | succ w ih => simp only [tenP]; omega
theorem tenP_mono (a b : Nat) (h : a ≤ b) : tenP a ≤ tenP b := by
  induction b with
  | zero => obtain rfl : a = 0 := by omega
            exact Int.le_refl _
  | succ b ih =>
    by_cases hb : a ≤ b
    · have := ih hb; have := tenP_pos b; simp only [tenP]; omega
    · obtain rfl : a = b + 1 := by omega
      exact Int.le_refl _
theorem tenP_12 (w : Nat) (h : w ≤ 12) : tenP w ≤ 1000000000000 := by
  have := tenP_mono w 12 h
  have e : tenP 12 = 1000000000000 := by decide
  omega

/-- The number that a list of digits shows, the lowest digit first. -/
def num : List Int → Int
  | [] => 0
  | d :: ds => d + 10 * num ds
/-- All are digits. -/
def digs (l : List Int) : Prop := ∀ d ∈ l, 0 ≤ d ∧ d ≤ 9
theorem digs_cons {d : Int} {l : List Int} : digs (d :: l) ↔ (0 ≤ d ∧ d ≤ 9) ∧ digs l := by
  unfold digs; simp
theorem num_bd (l : List Int) (h : digs l) : 0 ≤ num l ∧ num l < tenP l.length := by
  induction l with
  | nil => simp [num, tenP]
  | cons d ds ih =>
    obtain ⟨⟨a, b⟩, c⟩ := digs_cons.1 h
    have := ih c
    simp only [num, List.length_cons, tenP]
    omega
/-- The digits of a number, w of them, the lowest first. -/
def shown (n : Int) : Nat → List Int
  | 0 => []
  | w + 1 => n % 10 :: shown (n / 10) w
theorem shown_length (n : Int) (w : Nat) : (shown n w).length = w := by
  induction w generalizing n with
  | zero => rfl
  | succ w ih => simp [shown, ih]
theorem shown_digs (n : Int) (w : Nat) : digs (shown n w) := by
  induction w generalizing n with
  | zero => intro d hd; simp [shown] at hd
  | succ w ih => rw [shown, digs_cons]; exact ⟨by omega, ih _⟩
theorem num_shown (n : Int) (w : Nat) : num (shown n w) = n % tenP w := by
  induction w generalizing n with
  | zero => simp [shown, num, tenP]
  | succ w ih =>
    simp only [shown, num, tenP, ih]
    have hp := tenP_pos w
    have h1 : n = 10 * (n / 10) + n % 10 := by omega
    have h2 := Int.mul_ediv_add_emod (n / 10) (tenP w)
    have h3 := Int.emod_nonneg (n / 10) (Int.ne_of_gt hp)
    have h4 := Int.emod_lt_of_pos (n / 10) hp
    have e : n = (n % 10 + 10 * (n / 10 % tenP w)) + (10 * tenP w) * (n / 10 / tenP w) := by
      have : (10 * tenP w) * (n / 10 / tenP w) = 10 * (tenP w * (n / 10 / tenP w)) := Int.mul_assoc _ _ _
      omega
    conv => rhs; rw [e]
    rw [Int.add_mul_emod_self_left]
    exact (Int.emod_eq_of_lt (by omega) (by omega)).symm
theorem num_inj (a b : List Int) (ha : digs a) (hb : digs b) (hl : a.length = b.length) (h : num a = num b) : a = b := by
  induction a generalizing b with
  | nil => cases b with
    | nil => rfl
    | cons => simp at hl
  | cons x xs ih =>
    cases b with
    | nil => simp at hl
    | cons y ys =>
      obtain ⟨⟨a1, a2⟩, a3⟩ := digs_cons.1 ha
      obtain ⟨⟨b1, b2⟩, b3⟩ := digs_cons.1 hb
      simp only [num] at h
      have e1 : x = y := by omega
      have e2 : num xs = num ys := by omega
      rw [e1, ih ys a3 b3 (by simpa using hl) e2]
theorem shown_num (l : List Int) (h : digs l) : shown (num l) l.length = l := by
  have := num_bd l h
  refine num_inj _ _ (shown_digs _ _) h (shown_length _ _) ?_
  rw [num_shown, Int.emod_eq_of_lt this.1 this.2]
theorem shown_mod (n : Int) (w : Nat) : shown (n % tenP w) w = shown n w := by
  refine num_inj _ _ (shown_digs _ _) (shown_digs _ _) (by simp [shown_length]) ?_
  rw [num_shown, num_shown, Int.emod_emod]

/-- Each wheel turned by a digit, without carries; and the marks. -/
def turnD : List Int → List Int → List Int
  | a :: la, b :: lb => (a + b) % 10 :: turnD la lb
  | _, _ => []
def passD : List Int → List Int → List Int
  | a :: la, b :: lb => (a + b) / 10 :: passD la lb
  | _, _ => []
theorem turnD_length (a b : List Int) (h : a.length = b.length) : (turnD a b).length = a.length := by
  induction a generalizing b with
  | nil => cases b <;> simp [turnD]
  | cons x xs ih => cases b with
    | nil => simp at h
    | cons y ys => simp only [List.length_cons, Nat.succ.injEq] at h; simp [turnD, ih ys h]
theorem passD_length (a b : List Int) (h : a.length = b.length) : (passD a b).length = a.length := by
  induction a generalizing b with
  | nil => cases b <;> simp [passD]
  | cons x xs ih => cases b with
    | nil => simp at h
    | cons y ys => simp only [List.length_cons, Nat.succ.injEq] at h; simp [passD, ih ys h]
theorem turnD_digs (a b : List Int) : digs (turnD a b) := by
  induction a generalizing b with
  | nil => cases b <;> (intro d hd; simp [turnD] at hd)
  | cons x xs ih => cases b with
    | nil => intro d hd; simp [turnD] at hd
    | cons y ys => rw [turnD, digs_cons]; exact ⟨by omega, ih _⟩
/-- All are 0 or 1. -/
def flags (l : List Int) : Prop := ∀ d ∈ l, 0 ≤ d ∧ d ≤ 1
theorem flags_cons {d : Int} {l : List Int} : flags (d :: l) ↔ (0 ≤ d ∧ d ≤ 1) ∧ flags l := by
  unfold flags; simp
theorem flags_digs {l : List Int} (h : flags l) : digs l := fun d hd => by have := h d hd; omega
theorem passD_flags (a b : List Int) (ha : digs a) (hb : digs b) : flags (passD a b) := by
  induction a generalizing b with
  | nil => cases b <;> (intro d hd; simp [passD] at hd)
  | cons x xs ih => cases b with
    | nil => intro d hd; simp [passD] at hd
    | cons y ys =>
      obtain ⟨a1, a3⟩ := digs_cons.1 ha
      obtain ⟨b1, b3⟩ := digs_cons.1 hb
      rw [passD, flags_cons]; exact ⟨by omega, ih _ a3 b3⟩
theorem num_turn (a b : List Int) (h : a.length = b.length) : num (turnD a b) + 10 * num (passD a b) = num a + num b := by
  induction a generalizing b with
  | nil => cases b with
    | nil => simp [turnD, passD, num]
    | cons => simp at h
  | cons x xs ih => cases b with
    | nil => simp at h
    | cons y ys =>
      simp only [List.length_cons, Nat.succ.injEq] at h
      have := ih ys h
      simp only [turnD, passD, num]
      omega
/-- The marks moved up by one wheel: the mark of the highest wheel drops out. -/
def upD (m : List Int) : List Int := (0 :: m).take m.length
theorem upD_length (m : List Int) : (upD m).length = m.length := by simp [upD]
theorem num_append (a b : List Int) : num (a ++ b) = num a + tenP a.length * num b := by
  induction a with
  | nil => simp [num, tenP]
  | cons x xs ih =>
    simp only [List.cons_append, num, ih, List.length_cons, tenP]
    have : 10 * tenP xs.length * num b = 10 * (tenP xs.length * num b) := Int.mul_assoc _ _ _
    omega
/-- All carries at once, from the lowest wheel up. -/
def aheadD (k : Int) : List Int → List Int → List Int
  | d :: ds, m :: ms => (d + k) % 10 :: aheadD (m + (d + k) / 10) ds ms
  | _, _ => []
theorem aheadD_length (k : Int) (a b : List Int) (h : a.length = b.length) : (aheadD k a b).length = a.length := by
  induction a generalizing b k with
  | nil => cases b <;> simp [aheadD]
  | cons x xs ih => cases b with
    | nil => simp at h
    | cons y ys => simp only [List.length_cons, Nat.succ.injEq] at h; simp [aheadD, ih _ ys h]
theorem aheadD_digs (k : Int) (a b : List Int) : digs (aheadD k a b) := by
  induction a generalizing b k with
  | nil => cases b <;> (intro d hd; simp [aheadD] at hd)
  | cons x xs ih => cases b with
    | nil => intro d hd; simp [aheadD] at hd
    | cons y ys => rw [aheadD, digs_cons]; exact ⟨by omega, ih _ _⟩
theorem emod_ten (x y p : Int) (hp : 0 < p) : (x % 10 + 10 * ((x / 10 + y) % p)) = (x + 10 * y) % (10 * p) := by
  have h1 : x = 10 * (x / 10) + x % 10 := by omega
  have h2 := Int.mul_ediv_add_emod (x / 10 + y) p
  have h3 := Int.emod_nonneg (x / 10 + y) (Int.ne_of_gt hp)
  have h4 := Int.emod_lt_of_pos (x / 10 + y) hp
  have e : x + 10 * y = (x % 10 + 10 * ((x / 10 + y) % p)) + (10 * p) * ((x / 10 + y) / p) := by
    have : (10 * p) * ((x / 10 + y) / p) = 10 * (p * ((x / 10 + y) / p)) := Int.mul_assoc _ _ _
    omega
  rw [e, Int.add_mul_emod_self_left]
  exact (Int.emod_eq_of_lt (by omega) (by omega)).symm
theorem num_ahead (k : Int) (a m : List Int) (h : a.length = m.length) : num (aheadD k a m) = (num a + k + 10 * num m) % tenP a.length := by
  induction a generalizing m k with
  | nil => cases m with
    | nil => simp [aheadD, num, tenP]
    | cons => simp at h
  | cons x xs ih => cases m with
    | nil => simp at h
    | cons y ys =>
      simp only [List.length_cons, Nat.succ.injEq] at h
      have := ih (y + (x + k) / 10) ys h
      simp only [aheadD, num, List.length_cons, tenP, this]
      have e : num xs + (y + (x + k) / 10) + 10 * num ys = (x + k) / 10 + (num xs + y + 10 * num ys) := by omega
      rw [e, emod_ten _ _ _ (tenP_pos _)]
      congr 1
      omega
/-- Turning and carrying at once adds. -/
theorem ahead_adds (a b : List Int) (h : a.length = b.length) : aheadD 0 (turnD a b) (passD a b) = shown (num a + num b) a.length := by
  have hl : (turnD a b).length = (passD a b).length := by rw [turnD_length _ _ h, passD_length _ _ h]
  refine num_inj _ _ (aheadD_digs _ _ _) (shown_digs _ _) (by rw [aheadD_length _ _ _ hl, turnD_length _ _ h, shown_length]) ?_
  rw [num_ahead _ _ _ hl, num_shown, turnD_length _ _ h]
  have := num_turn a b h
  congr 1
  omega

/-- A byte is a digit's. -/
def isDig (c : UInt8) : Bool := 48 ≤ c && c ≤ 57
/-- A byte is a mark. -/
def isMark (c : UInt8) : Bool := c == 48 || c == 49
theorem isDig_iff (c : UInt8) : isDig c = true ↔ 48 ≤ (c.toNat : Int) ∧ (c.toNat : Int) ≤ 57 := by
  unfold isDig
  rw [Bool.and_eq_true, decide_eq_true_eq, decide_eq_true_eq, UInt8.le_iff_toNat_le, UInt8.le_iff_toNat_le]
  simp
  omega
/-- A string is a column. -/
def colOk (l : List UInt8) : Bool := l.all isDig && decide (1 ≤ l.length) && decide (l.length ≤ 12)
theorem colOk_iff (l : List UInt8) : colOk l = true ↔ (∀ c ∈ l, 48 ≤ (c.toNat : Int) ∧ (c.toNat : Int) ≤ 57) ∧ 1 ≤ l.length ∧ l.length ≤ 12 := by
  unfold colOk
  rw [Bool.and_eq_true, Bool.and_eq_true, decide_eq_true_eq, decide_eq_true_eq, List.all_eq_true]
  simp only [isDig_iff]
  constructor
  · rintro ⟨⟨a, b⟩, c⟩; exact ⟨a, b, c⟩
  · rintro ⟨a, b, c⟩; exact ⟨⟨a, b⟩, c⟩
/-- The digits of a text, the lowest first. -/
def dg (l : List UInt8) : List Int := l.reverse.map fun c => (c.toNat : Int) - 48
/-- The text of digits. -/
def txt (ds : List Int) : List UInt8 := (ds.map fun d => UInt8.ofNat (48 + d).toNat).reverse
theorem dg_length (l : List UInt8) : (dg l).length = l.length := by simp [dg]
theorem txt_length (l : List Int) : (txt l).length = l.length := by simp [txt]
theorem dg_snoc (l : List UInt8) (c : UInt8) : dg (l ++ [c]) = ((c.toNat : Int) - 48) :: dg l := by simp [dg]
theorem txt_cons (d : Int) (ds : List Int) : txt (d :: ds) = txt ds ++ [UInt8.ofNat (48 + d).toNat] := by simp [txt]
theorem dg_digs (l : List UInt8) (h : ∀ c ∈ l, 48 ≤ (c.toNat : Int) ∧ (c.toNat : Int) ≤ 57) : digs (dg l) := by
  intro d hd
  simp only [dg, List.mem_map, List.mem_reverse] at hd
  obtain ⟨c, hc, rfl⟩ := hd
  have := h c hc
  omega
theorem byte_of (d : Int) (h : 0 ≤ d ∧ d ≤ 9) : ((UInt8.ofNat (48 + d).toNat).toNat : Int) = 48 + d := by
  simp only [UInt8.toNat_ofNat']
  omega
theorem dg_txt (ds : List Int) (h : digs ds) : dg (txt ds) = ds := by
  induction ds with
  | nil => rfl
  | cons d ds ih =>
    obtain ⟨a, b⟩ := digs_cons.1 h
    rw [txt_cons, dg_snoc, ih b, byte_of d a]
    congr 1
    omega
theorem txt_dg (l : List UInt8) (h : ∀ c ∈ l, 48 ≤ (c.toNat : Int) ∧ (c.toNat : Int) ≤ 57) : txt (dg l) = l := by
  have : ∀ l : List UInt8, (∀ c ∈ l, 48 ≤ (c.toNat : Int) ∧ (c.toNat : Int) ≤ 57) → txt (l.map fun c => (c.toNat : Int) - 48) = l.reverse := by
    intro l h
    unfold txt
    congr 1
    rw [List.map_map]
    conv => rhs; rw [← List.map_id l]
    refine List.map_congr_left fun c hc => ?_
    have := h c hc
    simp only [Function.comp, id]
    have e : (48 + ((c.toNat : Int) - 48)).toNat = c.toNat := by omega
    rw [e]
    exact UInt8.ofNat_toNat
  have := this l.reverse fun c hc => h c (List.mem_reverse.1 hc)
  rw [List.reverse_reverse] at this
  exact this
theorem txt_ok (ds : List Int) (h : digs ds) : ∀ c ∈ txt ds, 48 ≤ (c.toNat : Int) ∧ (c.toNat : Int) ≤ 57 := by
  intro c hc
  simp only [txt, List.mem_reverse, List.mem_map] at hc
  obtain ⟨d, hd, rfl⟩ := hc
  have := h d hd
  rw [byte_of d this]
  omega
/-- The number that a text of digits shows. -/
def val (l : List UInt8) : Int := num (dg l)
theorem val_snoc (l : List UInt8) (c : UInt8) : val (l ++ [c]) = 10 * val l + ((c.toNat : Int) - 48) := by
  unfold val
  rw [dg_snoc, num]
  omega
theorem val_nil : val [] = 0 := rfl
theorem val_bd (l : List UInt8) (h : ∀ c ∈ l, 48 ≤ (c.toNat : Int) ∧ (c.toNat : Int) ≤ 57) : 0 ≤ val l ∧ val l < tenP l.length := by
  have := num_bd _ (dg_digs l h)
  rw [dg_length] at this
  exact this
/-- The column of w wheels that shows a number, modulo its size. -/
def showB (n : Int) (w : Nat) : List UInt8 := txt (shown n w)
theorem showB_length (n : Int) (w : Nat) : (showB n w).length = w := by simp [showB, txt_length, shown_length]
theorem showB_ok (n : Int) (w : Nat) : ∀ c ∈ showB n w, 48 ≤ (c.toNat : Int) ∧ (c.toNat : Int) ≤ 57 := txt_ok _ (shown_digs n w)
theorem showB_mod (n : Int) (w : Nat) : showB (n % tenP w) w = showB n w := by rw [showB, shown_mod, showB]
theorem val_showB (n : Int) (w : Nat) : val (showB n w) = n % tenP w := by rw [val, showB, dg_txt _ (shown_digs n w), num_shown]
theorem showB_val (l : List UInt8) (h : ∀ c ∈ l, 48 ≤ (c.toNat : Int) ∧ (c.toNat : Int) ≤ 57) : showB (val l) l.length = l := by
  rw [showB, val, ← dg_length l, shown_num _ (dg_digs l h), txt_dg l h]
theorem showB_succ (n : Int) (w : Nat) : showB n (w + 1) = showB (n / 10) w ++ [UInt8.ofNat (48 + n % 10).toNat] := by
  rw [showB, shown, txt_cons, showB]
theorem val_inj (a b : List UInt8) (ha : ∀ c ∈ a, 48 ≤ (c.toNat : Int) ∧ (c.toNat : Int) ≤ 57) (hb : ∀ c ∈ b, 48 ≤ (c.toNat : Int) ∧ (c.toNat : Int) ≤ 57) (hl : a.length = b.length) (h : val a = val b) : a = b := by
  rw [← showB_val a ha, ← showB_val b hb, hl, h]
/-- A column of a width can stand for a number. -/
def fits (n : Int) (w : Nat) : Bool := decide (-(tenP w / 2) ≤ n) && decide (n < tenP w / 2)
/-- The number that a column stands for. -/
def sgn (l : List UInt8) : Int := if tenP l.length / 2 ≤ val l then val l - tenP l.length else val l
/-- Without the leading and trailing bytes of a set, nothing is left exactly if all are of the set. -/
theorem trim_nil (p : UInt8 → Bool) (l : List UInt8) : (((l.reverse.dropWhile p).reverse).dropWhile p = []) ↔ ∀ c ∈ l, p c = true := by
  have dw : ∀ l : List UInt8, l.dropWhile p = [] ↔ ∀ c ∈ l, p c = true := by
    intro l
    induction l with
    | nil => simp
    | cons x xs ih =>
      rw [List.dropWhile_cons]
      by_cases h : p x = true
      · rw [if_pos h, ih]; simp [h]
      · rw [if_neg h]; simp [h]
  constructor
  · intro h
    rw [dw] at h
    have h2 : l.reverse.dropWhile p = [] := by
      cases e : l.reverse.dropWhile p with
      | nil => rfl
      | cons x xs =>
        have hx : ¬ p x = true := by
          have := List.head_dropWhile_not p (l := l.reverse) (by rw [e]; simp)
          simp [e] at this
          simp [this]
        exact absurd (h x (by rw [e]; simp)) hx
    rw [dw] at h2
    exact fun c hc => h2 c (List.mem_reverse.2 hc)
  · intro h
    have : l.reverse.dropWhile p = [] := (dw _).2 fun c hc => h c (List.mem_reverse.1 hc)
    rw [this]
    rfl
/-- What is left of a number when k digits have been taken. -/
def rst (m : Int) : Nat → Int
  | 0 => m
  | k + 1 => rst m k / 10
theorem rst_div (m : Int) (k : Nat) : rst (m / 10) k = rst m k / 10 := by
  induction k with
  | zero => rfl
  | succ k ih => rw [rst, ih, rst]
theorem shown_snoc (m : Int) (k : Nat) : shown m (k + 1) = shown m k ++ [rst m k % 10] := by
  induction k generalizing m with
  | zero => rfl
  | succ k ih => rw [shown, ih, shown, rst_div, List.cons_append, rst]
theorem rst_bd (m : Int) (k : Nat) (h : 0 ≤ m) : 0 ≤ rst m k ∧ rst m k ≤ m := by
  induction k with
  | zero => exact ⟨h, Int.le_refl _⟩
  | succ k ih => rw [rst]; omega
/-- The wheels of a row: twelve, those past the width 0. -/
def pad (ds : List Int) : List Int := ds ++ List.replicate (12 - ds.length) 0
theorem pad_length (ds : List Int) (h : ds.length ≤ 12) : (pad ds).length = 12 := by simp [pad]; omega
theorem pad_at (ds : List Int) (k : Nat) (h : k < ds.length) : (pad ds)[k]? = ds[k]? := by
  rw [pad, List.getElem?_append_left h]
theorem pad_out (ds : List Int) (k : Nat) (h : ds.length ≤ k) (h2 : k < 12) : (pad ds)[k]? = some 0 := by
  rw [pad, List.getElem?_append_right h, List.getElem?_replicate, if_pos (by omega)]
theorem pad_set (ds : List Int) (d : Int) (h : ds.length < 12) : (pad ds).set ds.length d = pad (ds ++ [d]) := by
  unfold pad
  rw [List.set_append_right _ _ (Nat.le_refl _), Nat.sub_self, List.length_append, List.length_singleton]
  have e : 12 - ds.length = (12 - (ds.length + 1)) + 1 := by omega
  rw [e, List.replicate_succ, List.set_cons_zero, List.append_assoc, List.singleton_append]
theorem take_get (l : List Int) (k : Nat) (d : Int) (h : l[k]? = some d) : l.take (k + 1) = l.take k ++ [d] := by
  rw [List.take_add_one, h]; rfl
theorem txt_snoc (l : List Int) (d : Int) : txt (l ++ [d]) = UInt8.ofNat (48 + d).toNat :: txt l := by simp [txt]
end Go.Proofs.Ytcinhmfjnjecdaa
namespace Go.Proofs.Ytcinhmfjnjecdaa
theorem turnD_zip (a b : List Int) : turnD a b = List.zipWith (fun x y => (x + y) % 10) a b := by
  induction a generalizing b with
  | nil => cases b <;> rfl
  | cons x xs ih => cases b with
    | nil => rfl
    | cons y ys => rw [turnD, ih, List.zipWith_cons_cons]
theorem passD_zip (a b : List Int) : passD a b = List.zipWith (fun x y => (x + y) / 10) a b := by
  induction a generalizing b with
  | nil => cases b <;> rfl
  | cons x xs ih => cases b with
    | nil => rfl
    | cons y ys => rw [passD, ih, List.zipWith_cons_cons]
/-- The byte that a digit is shown by. -/
def chr (d : Int) : UInt8 := UInt8.ofNat (48 + d).toNat
theorem zip_rev {α β γ : Type} (f : α → β → γ) (a : List α) (b : List β) (h : a.length = b.length) : List.zipWith f a.reverse b.reverse = (List.zipWith f a b).reverse := by
  induction a generalizing b with
  | nil => cases b <;> simp
  | cons x xs ih => cases b with
    | nil => simp at h
    | cons y ys =>
      simp only [List.length_cons, Nat.succ.injEq] at h
      rw [List.reverse_cons, List.reverse_cons, List.zipWith_append (by simp [h]), ih ys h, List.zipWith_cons_cons, List.zipWith_nil_left, List.zipWith_cons_cons, List.reverse_cons]
theorem txt_zip (f : Int → Int → Int) (a b : List UInt8) (h : a.length = b.length) : txt (List.zipWith f (dg a) (dg b)) = List.zipWith (fun x y : UInt8 => chr (f ((x.toNat : Int) - 48) ((y.toNat : Int) - 48))) a b := by
  unfold txt dg
  rw [List.zipWith_map, zip_rev _ _ _ h, ← List.map_reverse, List.reverse_reverse, List.map_zipWith]
  rfl
theorem txt_turn (a b : List UInt8) (h : a.length = b.length) : txt (turnD (dg a) (dg b)) = List.zipWith (fun x y : UInt8 => chr (((x.toNat : Int) - 48 + ((y.toNat : Int) - 48)) % 10)) a b := by
  rw [turnD_zip, txt_zip _ _ _ h]
theorem txt_pass (a b : List UInt8) (h : a.length = b.length) : txt (passD (dg a) (dg b)) = List.zipWith (fun x y : UInt8 => chr (((x.toNat : Int) - 48 + ((y.toNat : Int) - 48)) / 10)) a b := by
  rw [passD_zip, txt_zip _ _ _ h]
theorem take_zip {α β γ : Type} (f : α → β → γ) (a : List α) (b : List β) (k : Nat) (x : α) (y : β) (ha : a[k]? = some x) (hb : b[k]? = some y) : (List.zipWith f a b).take (k + 1) = (List.zipWith f a b).take k ++ [f x y] := by
  have : (List.zipWith f a b)[k]? = some (f x y) := by rw [List.getElem?_zipWith, ha, hb]
  rw [List.take_add_one, this]; rfl
/-- The lowest k marks are 0. -/
def lowZ (k : Nat) (m : List Int) : Prop := ∀ j d, j < k → m[j]? = some d → d = 0
theorem lowZ_num (m : List Int) (h : lowZ m.length m) : num m = 0 := by
  induction m with
  | nil => rfl
  | cons d ds ih =>
    have h0 := h 0 d (by simp) rfl
    have := ih fun j e hj he => h (j + 1) e (by simp; omega) (by simpa using he)
    rw [num, h0, this]; rfl
theorem num_zero (m : List Int) (hm : digs m) (h : num m = 0) : ∀ d ∈ m, d = 0 := by
  induction m with
  | nil => intro d hd; simp at hd
  | cons x xs ih =>
    obtain ⟨a, b⟩ := digs_cons.1 hm
    have := num_bd xs b
    rw [num] at h
    intro d hd
    rcases List.mem_cons.1 hd with rfl | hd
    · omega
    · exact ih b (by omega) d hd
theorem lowZ_pass (k : Nat) (a m : List Int) (ha : digs a) (hl : a.length = m.length) (h : lowZ k m) : lowZ (k + 1) (passD a (upD m)) := by
  intro j d hj hd
  rw [passD_zip, List.getElem?_zipWith] at hd
  cases ea : a[j]? with
  | none => rw [ea] at hd; simp at hd
  | some x =>
    cases eb : (upD m)[j]? with
    | none => rw [ea, eb] at hd; simp at hd
    | some y =>
      rw [ea, eb] at hd
      simp only [Option.some.injEq] at hd
      have hx := ha x (List.mem_of_getElem? ea)
      have hjl : j < a.length := (List.getElem?_eq_some_iff.1 ea).1
      have hy : y = 0 := by
        rw [upD, List.getElem?_take, if_pos (by omega)] at eb
        cases j with
        | zero => simpa using eb.symm
        | succ j => rw [List.getElem?_cons_succ] at eb; exact h j y (by omega) eb
      subst hy
      omega
/-- Carries in sequence, at most f times, and how often. -/
def allD : Nat → List Int → List Int → List Int × Nat
  | 0, a, _ => (a, 0)
  | f + 1, a, m => if num m = 0 then (a, 0) else ((allD f (turnD a (upD m)) (passD a (upD m))).1, (allD f (turnD a (upD m)) (passD a (upD m))).2 + 1)
theorem allD_stop (f : Nat) (a m : List Int) (h : num m = 0) : allD f a m = (a, 0) := by
  cases f with
  | zero => rfl
  | succ f => rw [allD, if_pos h]
theorem allD_go (f : Nat) (a m : List Int) (h : num m ≠ 0) : allD (f + 1) a m = ((allD f (turnD a (upD m)) (passD a (upD m))).1, (allD f (turnD a (upD m)) (passD a (upD m))).2 + 1) := by
  rw [allD, if_neg h]
theorem num_snoc_zero (l : List Int) : num (l ++ [0]) = num l := by
  rw [num_append]; simp [num]
theorem num_take (l : List Int) (k : Nat) (h : digs l) (hk : k ≤ l.length) : num (l.take k) = num l % tenP k := by
  have e : num l = num (l.take k) + tenP (l.take k).length * num (l.drop k) := by rw [← num_append, List.take_append_drop]
  have hd : digs (l.take k) := fun d hd => h d (List.mem_of_mem_take hd)
  have hb := num_bd _ hd
  have hl : (l.take k).length = k := by rw [List.length_take]; omega
  rw [hl] at hb e
  rw [e, Int.add_mul_emod_self_left, Int.emod_eq_of_lt hb.1 hb.2]
theorem upD_digs (m : List Int) (h : digs m) : digs (upD m) := by
  intro d hd
  have := List.mem_of_mem_take hd
  rcases List.mem_cons.1 this with rfl | h'
  · omega
  · exact h d h'
theorem num_up (m : List Int) (h : digs m) : num (upD m) = (10 * num m) % tenP m.length := by
  rw [upD, num_take (0 :: m) m.length (digs_cons.2 ⟨by omega, h⟩) (by simp), num]
  congr 1
  omega
/-- Carrying at once adds the marks, moved up. -/
theorem ahead_up (a m : List Int) (hm : digs m) (hl : a.length = m.length) : aheadD 0 a m = shown (num a + num (upD m)) a.length := by
  refine num_inj _ _ (aheadD_digs _ _ _) (shown_digs _ _) (by rw [aheadD_length _ _ _ hl, shown_length]) ?_
  rw [num_ahead _ _ _ hl, num_shown, num_up _ hm, ← hl, Int.add_zero, Int.add_emod_emod]
/-- The number of places by which wheel k is moved when all carries are made from the lowest wheel up. -/
def cr (c : Int) : List Int → List Int → Nat → Int
  | _, _, 0 => c
  | d :: ds, m :: ms, k + 1 => cr (m + (d + c) / 10) ds ms k
  | _, _, _ + 1 => 0
theorem cr_step (c : Int) (A M : List Int) (k : Nat) (a m : Int) (ha : A[k]? = some a) (hm : M[k]? = some m) : cr c A M (k + 1) = m + (a + cr c A M k) / 10 := by
  induction k generalizing c A M with
  | zero =>
    cases A with
    | nil => simp at ha
    | cons x xs => cases M with
      | nil => simp at hm
      | cons y ys =>
        simp only [List.getElem?_cons_zero, Option.some.injEq] at ha hm
        subst ha hm
        simp [cr]
  | succ k ih =>
    cases A with
    | nil => simp at ha
    | cons x xs => cases M with
      | nil => simp at hm
      | cons y ys =>
        simp only [List.getElem?_cons_succ] at ha hm
        have := ih (y + (x + c) / 10) xs ys ha hm
        simpa [cr] using this
theorem ahead_at (c : Int) (A M : List Int) (k : Nat) (a m : Int) (ha : A[k]? = some a) (hm : M[k]? = some m) : (aheadD c A M)[k]? = some ((a + cr c A M k) % 10) := by
  induction k generalizing c A M with
  | zero =>
    cases A with
    | nil => simp at ha
    | cons x xs => cases M with
      | nil => simp at hm
      | cons y ys =>
        simp only [List.getElem?_cons_zero, Option.some.injEq] at ha hm
        subst ha hm
        simp [cr, aheadD]
  | succ k ih =>
    cases A with
    | nil => simp at ha
    | cons x xs => cases M with
      | nil => simp at hm
      | cons y ys =>
        simp only [List.getElem?_cons_succ] at ha hm
        have := ih (y + (x + c) / 10) xs ys ha hm
        simpa [cr, aheadD] using this
theorem cr_bd (A M : List Int) (hA : digs A) (hM : flags M) (hl : A.length = M.length) (k : Nat) (hk : k ≤ A.length) : 0 ≤ cr 0 A M k ∧ cr 0 A M k ≤ 2 := by
  induction k with
  | zero => cases A <;> cases M <;> simp [cr]
  | succ k ih =>
    have h := ih (by omega)
    have ea : A[k]? = some A[k] := List.getElem?_eq_getElem (by omega)
    have em : M[k]? = some M[k] := List.getElem?_eq_getElem (by omega)
    have b1 := hA _ (List.mem_of_getElem? ea)
    have b2 := hM _ (List.mem_of_getElem? em)
    rw [cr_step 0 A M k _ _ ea em]
    omega
theorem allD_facts (f n : Nat) (A M : List Int) (hA : A.length = n) (hM : M.length = n) (dA : digs A) : (allD f A M).1.length = n ∧ digs (allD f A M).1 := by
  induction f generalizing A M with
  | zero => exact ⟨hA, dA⟩
  | succ f ih =>
    rw [allD]
    split
    · exact ⟨hA, dA⟩
    · have ul : (upD M).length = n := by rw [upD_length, hM]
      exact ih _ _ (by rw [turnD_length _ _ (by omega), hA]) (by rw [passD_length _ _ (by omega), hA]) (turnD_digs _ _)
end Go.Proofs.Ytcinhmfjnjecdaa
namespace Go.Proofs.Ytcinhmfjnjecdaa
set_option linter.unusedVariables false
section
variable {α : Type}
/-- Each element with the next one, as this stands behind. -/
def backL (f : α → α → α) : List α → List α
  | [] => []
  | c :: r => (match (backL f r).head? with | none => c | some d => f c d) :: backL f r
/-- Each element with the next one, as this stood before. -/
def forthL (f : α → α → α) : List α → List α
  | [] => []
  | c :: r => (match r.head? with | none => c | some d => f c d) :: forthL f r
theorem backL_length (f : α → α → α) : ∀ l : List α, (backL f l).length = l.length
  | [] => rfl
  | c :: r => by simp [backL, backL_length f r]
theorem forthL_length (f : α → α → α) : ∀ l : List α, (forthL f l).length = l.length
  | [] => rfl
  | c :: r => by simp [forthL, forthL_length f r]
theorem backL_drop (f : α → α → α) : ∀ (k : Nat) (l : List α), (backL f l).drop k = backL f (l.drop k)
  | 0, l => by simp
  | k + 1, [] => by simp [backL]
  | k + 1, c :: r => by simp [backL, backL_drop f k r]
theorem forthL_drop (f : α → α → α) : ∀ (k : Nat) (l : List α), (forthL f l).drop k = forthL f (l.drop k)
  | 0, l => by simp
  | k + 1, [] => by simp [forthL]
  | k + 1, c :: r => by simp [forthL, forthL_drop f k r]
theorem backL_at (f : α → α → α) (l : List α) (k : Nat) : (backL f l)[k]? = ((backL f (l.drop k))).head? := by
  rw [← backL_drop, List.head?_drop]
theorem backL_last (f : α → α → α) (l : List α) (k : Nat) (h : k + 1 = l.length) : (backL f l)[k]? = l[k]? := by
  rw [backL_at]
  have hk : k < l.length := by omega
  rw [List.drop_eq_getElem_cons hk, List.drop_of_length_le (by omega)]
  simp [backL, hk]
theorem backL_inner (f : α → α → α) (l : List α) (k : Nat) (c d : α) (hc : l[k]? = some c) (hd : (backL f l)[k + 1]? = some d) : (backL f l)[k]? = some (f c d) := by
  have hk := (List.getElem?_eq_some_iff.1 hc).1
  rw [backL_at] at hd
  rw [backL_at, List.drop_eq_getElem_cons hk]
  have e : l[k] = c := (List.getElem?_eq_some_iff.1 hc).2
  simp [backL, hd, e]
theorem forthL_last (f : α → α → α) (l : List α) (k : Nat) (h : k + 1 = l.length) : (forthL f l)[k]? = l[k]? := by
  have e : (forthL f l)[k]? = (forthL f (l.drop k)).head? := by rw [← forthL_drop, List.head?_drop]
  have hk : k < l.length := by omega
  rw [e, List.drop_eq_getElem_cons hk, List.drop_of_length_le (by omega)]
  simp [forthL, hk]
theorem forthL_inner (f : α → α → α) (l : List α) (k : Nat) (c d : α) (hc : l[k]? = some c) (hd : l[k + 1]? = some d) : (forthL f l)[k]? = some (f c d) := by
  have e : (forthL f l)[k]? = (forthL f (l.drop k)).head? := by rw [← forthL_drop, List.head?_drop]
  have hk := (List.getElem?_eq_some_iff.1 hc).1
  have ec : l[k] = c := (List.getElem?_eq_some_iff.1 hc).2
  rw [e, List.drop_eq_getElem_cons hk]
  simp [forthL, hd, ec]
/-- n times. -/
def turnsL (g : List α → List α) : Nat → List α → List α
  | 0, l => l
  | n + 1, l => g (turnsL g n l)
theorem turnsL_length (g : List α → List α) (hg : ∀ l, (g l).length = l.length) (l : List α) : ∀ n, (turnsL g n l).length = l.length
  | 0 => rfl
  | n + 1 => by rw [turnsL, hg, turnsL_length g hg l n]
theorem turnsL_first (g : List α → List α) (l : List α) : ∀ n, turnsL g n (g l) = turnsL g (n + 1) l
  | 0 => rfl
  | n + 1 => by rw [turnsL, turnsL_first g l n]; rfl
theorem turnsL_add (g : List α → List α) (l : List α) (m : Nat) : ∀ n, turnsL g n (turnsL g m l) = turnsL g (n + m) l
  | 0 => by rw [Nat.zero_add]; rfl
  | n + 1 => by rw [turnsL, turnsL_add g l m n, show n + 1 + m = (n + m) + 1 by omega]; rfl
/-- From an index on, turned back. -/
def tailBack (f : α → α → α) (k : Nat) (l : List α) : List α := l.take k ++ backL f (l.drop k)
theorem tailBack_length (f : α → α → α) (k : Nat) (l : List α) : (tailBack f k l).length = l.length := by
  simp [tailBack, backL_length]; omega
theorem backL_one (f : α → α → α) (c : α) : backL f [c] = [c] := rfl
theorem tailBack_last (f : α → α → α) (k : Nat) (l : List α) (h : l.length ≤ k + 1) : tailBack f k l = l := by
  unfold tailBack
  by_cases hk : k < l.length
  · have e : l.drop k = [l[k]] := by rw [List.drop_eq_getElem_cons hk, List.drop_of_length_le (by omega)]
    rw [e, backL_one, ← e, List.take_append_drop]
  · rw [List.drop_of_length_le (by omega), List.take_of_length_le (by omega)]
    simp [backL]
theorem tailBack_low (f : α → α → α) (k i : Nat) (l : List α) (h : i < k) : (tailBack f k l)[i]? = l[i]? := by
  unfold tailBack
  by_cases hi : i < l.length
  · rw [List.getElem?_append_left (by rw [List.length_take]; omega), List.getElem?_take, if_pos h]
  · rw [List.getElem?_eq_none (by rw [List.length_append, List.length_take, backL_length, List.length_drop]; omega), List.getElem?_eq_none (by omega)]
theorem tailBack_high (f : α → α → α) (k i : Nat) (l : List α) (h : k ≤ i) : (tailBack f k l)[i]? = (backL f l)[i]? := by
  unfold tailBack
  rw [← backL_drop]
  by_cases hk : k ≤ l.length
  · have hl : (l.take k).length = k := by rw [List.length_take]; omega
    rw [List.getElem?_append_right (by omega), hl, List.getElem?_drop, show k + (i - k) = i by omega]
  · rw [List.getElem?_eq_none (by rw [List.length_append, List.length_take, List.length_drop, backL_length]; omega), List.getElem?_eq_none (by rw [backL_length]; omega)]
theorem tailBack_step (f : α → α → α) (k : Nat) (l : List α) (c d : α) (hc : l[k]? = some c) (hd : (backL f l)[k + 1]? = some d) : (tailBack f (k + 1) l).set k (f c d) = tailBack f k l := by
  apply List.ext_getElem?
  intro i
  have hk := (List.getElem?_eq_some_iff.1 hc).1
  rw [List.getElem?_set]
  by_cases e : k = i
  · subst e
    rw [if_pos rfl, if_pos (by rw [tailBack_length]; exact hk), tailBack_high f k k l (Nat.le_refl _), backL_inner f l k c d hc hd]
  · rw [if_neg e]
    by_cases hi : i < k
    · rw [tailBack_low f (k + 1) i l (by omega), tailBack_low f k i l hi]
    · rw [tailBack_high f (k + 1) i l (by omega), tailBack_high f k i l (by omega)]
theorem tailBack_zero (f : α → α → α) (l : List α) : tailBack f 0 l = backL f l := by simp [tailBack]
theorem backL_all (f : α → α → α) (P : α → Prop) (hf : ∀ c d, P c → P d → P (f c d)) : ∀ l : List α, (∀ z ∈ l, P z) → ∀ z ∈ backL f l, P z
  | [], _, z, hz => by simp [backL] at hz
  | c :: r, h, z, hz => by
    have ih := backL_all f P hf r (fun y hy => h y (by simp [hy]))
    simp only [backL, List.mem_cons] at hz
    rcases hz with hz | hz
    · cases hh : (backL f r).head? with
      | none => rw [hh] at hz; rw [hz]; exact h c (by simp)
      | some d => rw [hh] at hz; rw [hz]; exact hf c d (h c (by simp)) (ih d (List.mem_of_mem_head? hh))
    · exact ih z hz
theorem forthL_all (f : α → α → α) (P : α → Prop) (hf : ∀ c d, P c → P d → P (f c d)) : ∀ l : List α, (∀ z ∈ l, P z) → ∀ z ∈ forthL f l, P z
  | [], _, z, hz => by simp [forthL] at hz
  | c :: r, h, z, hz => by
    have ih := forthL_all f P hf r (fun y hy => h y (by simp [hy]))
    simp only [forthL, List.mem_cons] at hz
    rcases hz with hz | hz
    · cases hh : r.head? with
      | none => rw [hh] at hz; rw [hz]; exact h c (by simp)
      | some d => rw [hh] at hz; rw [hz]; exact hf c d (h c (by simp)) (h d (by simp [List.mem_of_mem_head? hh]))
    · exact ih z hz
theorem tailBack_all (f : α → α → α) (P : α → Prop) (hf : ∀ c d, P c → P d → P (f c d)) (k : Nat) (l : List α) (h : ∀ z ∈ l, P z) : ∀ z ∈ tailBack f k l, P z := by
  intro z hz
  unfold tailBack at hz
  rcases List.mem_append.1 hz with hz | hz
  · exact h z (List.mem_of_mem_take hz)
  · exact backL_all f P hf _ (fun y hy => h y (List.mem_of_mem_drop hy)) z hz
theorem turnsL_all (g : List α → List α) (P : α → Prop) (hg : ∀ l, (∀ z ∈ l, P z) → ∀ z ∈ g l, P z) (l : List α) (h : ∀ z ∈ l, P z) : ∀ n, ∀ z ∈ turnsL g n l, P z
  | 0 => h
  | n + 1 => hg _ (turnsL_all g P hg l h n)
/-- Turned back from 2 on, from 4 on, and so on, m times. -/
def askewN (f : α → α → α) (l : List α) : Nat → List α
  | 0 => l
  | m + 1 => tailBack f (2 * m + 2) (askewN f l m)
theorem askewN_length (f : α → α → α) (l : List α) : ∀ m, (askewN f l m).length = l.length
  | 0 => rfl
  | m + 1 => by rw [askewN, tailBack_length, askewN_length f l m]
theorem take_at (l : List α) (k i : Nat) (h : i < k) : (l.take k)[i]? = l[i]? := by rw [List.getElem?_take, if_pos h]
theorem askewN_at (f : α → α → α) (l : List α) : ∀ m i, (askewN f l m)[i]? = (turnsL (backL f) (min (i / 2) m) l)[i]?
  | 0, i => by rw [Nat.min_zero]; rfl
  | m + 1, i => by
    rw [askewN, tailBack]
    have hlen := askewN_length f l m
    by_cases h : i < 2 * m + 2
    · rw [show min (i / 2) (m + 1) = min (i / 2) m by omega, ← askewN_at f l m i]
      by_cases hi : i < l.length
      · rw [List.getElem?_append_left (by rw [List.length_take]; omega), take_at _ _ _ h]
      · rw [List.getElem?_eq_none (by rw [List.length_append, backL_length, List.length_take, List.length_drop]; omega), List.getElem?_eq_none (by omega)]
    · have e : (askewN f l m).drop (2 * m + 2) = (turnsL (backL f) m l).drop (2 * m + 2) := by
        apply List.ext_getElem?
        intro j
        rw [List.getElem?_drop, List.getElem?_drop, askewN_at f l m, show min ((2 * m + 2 + j) / 2) m = m by omega]
      rw [e, ← backL_drop, show min (i / 2) (m + 1) = m + 1 by omega]
      by_cases hi : 2 * m + 2 ≤ l.length
      · have hl : ((askewN f l m).take (2 * m + 2)).length = 2 * m + 2 := by rw [List.length_take]; omega
        rw [List.getElem?_append_right (by omega), hl, List.getElem?_drop, show 2 * m + 2 + (i - (2 * m + 2)) = i by omega]
        rfl
      · rw [List.getElem?_eq_none (by rw [List.length_append, List.length_take, List.length_drop, backL_length, turnsL_length _ (backL_length f)]; omega),
          List.getElem?_eq_none (by rw [turnsL_length _ (backL_length f)]; omega)]
theorem askewN_all (f : α → α → α) (P : α → Prop) (hf : ∀ c d, P c → P d → P (f c d)) (l : List α) (h : ∀ z ∈ l, P z) : ∀ m, ∀ z ∈ askewN f l m, P z
  | 0 => h
  | m + 1 => tailBack_all f P hf _ _ (askewN_all f P hf l h m)
/-- Element i turned back i / 2 times. -/
def askewL (f : α → α → α) (l : List α) : List α := askewN f l l.length
theorem askewL_at (f : α → α → α) (l : List α) (i : Nat) (h : i < l.length) : (askewL f l)[i]? = (turnsL (backL f) (i / 2) l)[i]? := by
  rw [askewL, askewN_at, show min (i / 2) l.length = i / 2 by omega]
theorem askewL_length (f : α → α → α) (l : List α) : (askewL f l).length = l.length := askewN_length f l _
theorem askewN_full (f : α → α → α) (l : List α) (m : Nat) (h : l.length ≤ 2 * m + 2) : askewN f l m = askewL f l := by
  apply List.ext_getElem?
  intro i
  by_cases hi : i < l.length
  · rw [askewN_at, askewL_at f l i hi, show min (i / 2) m = i / 2 by omega]
  · rw [List.getElem?_eq_none (by rw [askewN_length]; omega), List.getElem?_eq_none (by rw [askewL_length]; omega)]
end
end Go.Proofs.Ytcinhmfjnjecdaa
