/-
  Plain mathematics of columns of wheels, without a program: the digits of a number, the number of digits, sums of digits with carries. No conditions.
-/
namespace Go.Proofs.YtffmhcahiabicaaDoor

/-- 10 to the power of w. -/
def tenP : Nat → Int
  | 0 => 1
  | w + 1 => 10 * tenP w
theorem tenP_pos (w : Nat) : 0 < tenP w := by
  induction w with
  | zero => simp [tenP]
  | succ w ih => simp only [tenP]; omega
theorem tenP_mono (a b : Nat) (h : a ≤ b) : tenP a ≤ tenP b := by
  induction b with
  | zero => obtain rfl : a = 0 := by omega
            exact Int.le_refl _
  | succ b ih =>
    by_cases hb : a ≤ b
    · have := ih hb; have := tenP_pos b; simp only [tenP]; omega
    · obtain rfl : a = b + 1 := by omega
      exact Int.le_refl _
theorem tenP_12 (w : Nat) (h : w ≤ 12) : tenP w ≤ 1000000000000 := by
  have := tenP_mono w 12 h
  have e : tenP 12 = 1000000000000 := by decide
  omega

/-- The number that a list of digits shows, the lowest digit first. -/
def num : List Int → Int
  | [] => 0
  | d :: ds => d + 10 * num ds
/-- All are digits. -/
def digs (l : List Int) : Prop := ∀ d ∈ l, 0 ≤ d ∧ d ≤ 9
theorem digs_cons {d : Int} {l : List Int} : digs (d :: l) ↔ (0 ≤ d ∧ d ≤ 9) ∧ digs l := by
  unfold digs; simp
theorem num_bd (l : List Int) (h : digs l) : 0 ≤ num l ∧ num l < tenP l.length := by
  induction l with
  | nil => simp [num, tenP]
  | cons d ds ih =>
    obtain ⟨⟨a, b⟩, c⟩ := digs_cons.1 h
    have := ih c
    simp only [num, List.length_cons, tenP]
    omega
/-- The digits of a number, w of them, the lowest first. -/
def shown (n : Int) : Nat → List Int
  | 0 => []
  | w + 1 => n % 10 :: shown (n / 10) w
theorem shown_length (n : Int) (w : Nat) : (shown n w).length = w := by
  induction w generalizing n with
  | zero => rfl
  | succ w ih => simp [shown, ih]
theorem shown_digs (n : Int) (w : Nat) : digs (shown n w) := by
  induction w generalizing n with
  | zero => intro d hd; simp [shown] at hd
  | succ w ih => rw [shown, digs_cons]; exact ⟨by omega, ih _⟩
theorem num_shown (n : Int) (w : Nat) : num (shown n w) = n % tenP w := by
  induction w generalizing n with
  | zero => simp [shown, num, tenP]
  | succ w ih =>
    simp only [shown, num, tenP, ih]
    have hp := tenP_pos w
    have h1 : n = 10 * (n / 10) + n % 10 := by omega
    have h2 := Int.mul_ediv_add_emod (n / 10) (tenP w)
    have h3 := Int.emod_nonneg (n / 10) (Int.ne_of_gt hp)
    have h4 := Int.emod_lt_of_pos (n / 10) hp
    have e : n = (n % 10 + 10 * (n / 10 % tenP w)) + (10 * tenP w) * (n / 10 / tenP w) := by
      have : (10 * tenP w) * (n / 10 / tenP w) = 10 * (tenP w * (n / 10 / tenP w)) := Int.mul_assoc _ _ _
      omega
    conv => rhs; rw [e]
    rw [Int.add_mul_emod_self_left]
    exact (Int.emod_eq_of_lt (by omega) (by omega)).symm
theorem num_inj (a b : List Int) (ha : digs a) (hb : digs b) (hl : a.length = b.length) (h : num a = num b) : a = b := by
  induction a generalizing b with
  | nil => cases b with
    | nil => rfl
    | cons => simp at hl
  | cons x xs ih =>
    cases b with
    | nil => simp at hl
    | cons y ys =>
      obtain ⟨⟨a1, a2⟩, a3⟩ := digs_cons.1 ha
      obtain ⟨⟨b1, b2⟩, b3⟩ := digs_cons.1 hb
      simp only [num] at h
      have e1 : x = y := by omega
      have e2 : num xs = num ys := by omega
      rw [e1, ih ys a3 b3 (by simpa using hl) e2]
theorem shown_num (l : List Int) (h : digs l) : shown (num l) l.length = l := by
  have := num_bd l h
  refine num_inj _ _ (shown_digs _ _) h (shown_length _ _) ?_
  rw [num_shown, Int.emod_eq_of_lt this.1 this.2]
theorem shown_mod (n : Int) (w : Nat) : shown (n % tenP w) w = shown n w := by
  refine num_inj _ _ (shown_digs _ _) (shown_digs _ _) (by simp [shown_length]) ?_
  rw [num_shown, num_shown, Int.emod_emod]

/-- Each wheel turned by a digit, without carries; and the marks. -/
def turnD : List Int → List Int → List Int
  | a :: la, b :: lb => (a + b) % 10 :: turnD la lb
  | _, _ => []
def passD : List Int → List Int → List Int
  | a :: la, b :: lb => (a + b) / 10 :: passD la lb
  | _, _ => []
theorem turnD_length (a b : List Int) (h : a.length = b.length) : (turnD a b).length = a.length := by
  induction a generalizing b with
  | nil => cases b <;> simp [turnD]
  | cons x xs ih => cases b with
    | nil => simp at h
    | cons y ys => simp only [List.length_cons, Nat.succ.injEq] at h; simp [turnD, ih ys h]
theorem passD_length (a b : List Int) (h : a.length = b.length) : (passD a b).length = a.length := by
  induction a generalizing b with
  | nil => cases b <;> simp [passD]
  | cons x xs ih => cases b with
    | nil => simp at h
    | cons y ys => simp only [List.length_cons, Nat.succ.injEq] at h; simp [passD, ih ys h]
theorem turnD_digs (a b : List Int) : digs (turnD a b) := by
  induction a generalizing b with
  | nil => cases b <;> (intro d hd; simp [turnD] at hd)
  | cons x xs ih => cases b with
    | nil => intro d hd; simp [turnD] at hd
    | cons y ys => rw [turnD, digs_cons]; exact ⟨by omega, ih _⟩
/-- All are 0 or 1. -/
def flags (l : List Int) : Prop := ∀ d ∈ l, 0 ≤ d ∧ d ≤ 1
theorem flags_cons {d : Int} {l : List Int} : flags (d :: l) ↔ (0 ≤ d ∧ d ≤ 1) ∧ flags l := by
  unfold flags; simp
theorem flags_digs {l : List Int} (h : flags l) : digs l := fun d hd => by have := h d hd; omega
theorem passD_flags (a b : List Int) (ha : digs a) (hb : digs b) : flags (passD a b) := by
  induction a generalizing b with
  | nil => cases b <;> (intro d hd; simp [passD] at hd)
  | cons x xs ih => cases b with
    | nil => intro d hd; simp [passD] at hd
    | cons y ys =>
      obtain ⟨a1, a3⟩ := digs_cons.1 ha
      obtain ⟨b1, b3⟩ := digs_cons.1 hb
      rw [passD, flags_cons]; exact ⟨by omega, ih _ a3 b3⟩
theorem num_turn (a b : List Int) (h : a.length = b.length) : num (turnD a b) + 10 * num (passD a b) = num a + num b := by
  induction a generalizing b with
  | nil => cases b with
    | nil => simp [turnD, passD, num]
    | cons => simp at h
  | cons x xs ih => cases b with
    | nil => simp at h
    | cons y ys =>
      simp only [List.length_cons, Nat.succ.injEq] at h
      have := ih ys h
      simp only [turnD, passD, num]
      omega
/-- The marks moved up by one wheel: the mark of the highest wheel drops out. -/
def upD (m : List Int) : List Int := (0 :: m).take m.length
theorem upD_length (m : List Int) : (upD m).length = m.length := by simp [upD]
theorem num_append (a b : List Int) : num (a ++ b) = num a + tenP a.length * num b := by
  induction a with
  | nil => simp [num, tenP]
  | cons x xs ih =>
    simp only [List.cons_append, num, ih, List.length_cons, tenP]
    have : 10 * tenP xs.length * num b = 10 * (tenP xs.length * num b) := Int.mul_assoc _ _ _
    omega
/-- All carries at once, from the lowest wheel up. -/
def aheadD (k : Int) : List Int → List Int → List Int
  | d :: ds, m :: ms => (d + k) % 10 :: aheadD (m + (d + k) / 10) ds ms
  | _, _ => []
theorem aheadD_length (k : Int) (a b : List Int) (h : a.length = b.length) : (aheadD k a b).length = a.length := by
  induction a generalizing b k with
  | nil => cases b <;> simp [aheadD]
  | cons x xs ih => cases b with
    | nil => simp at h
    | cons y ys => simp only [List.length_cons, Nat.succ.injEq] at h; simp [aheadD, ih _ ys h]
theorem aheadD_digs (k : Int) (a b : List Int) : digs (aheadD k a b) := by
  induction a generalizing b k with
  | nil => cases b <;> (intro d hd; simp [aheadD] at hd)
  | cons x xs ih => cases b with
    | nil => intro d hd; simp [aheadD] at hd
    | cons y ys => rw [aheadD, digs_cons]; exact ⟨by omega, ih _ _⟩
theorem emod_ten (x y p : Int) (hp : 0 < p) : (x % 10 + 10 * ((x / 10 + y) % p)) = (x + 10 * y) % (10 * p) := by
  have h1 : x = 10 * (x / 10) + x % 10 := by omega
  have h2 := Int.mul_ediv_add_emod (x / 10 + y) p
  have h3 := Int.emod_nonneg (x / 10 + y) (Int.ne_of_gt hp)
  have h4 := Int.emod_lt_of_pos (x / 10 + y) hp
  have e : x + 10 * y = (x % 10 + 10 * ((x / 10 + y) % p)) + (10 * p) * ((x / 10 + y) / p) := by
    have : (10 * p) * ((x / 10 + y) / p) = 10 * (p * ((x / 10 + y) / p)) := Int.mul_assoc _ _ _
    omega
  rw [e, Int.add_mul_emod_self_left]
  exact (Int.emod_eq_of_lt (by omega) (by omega)).symm
theorem num_ahead (k : Int) (a m : List Int) (h : a.length = m.length) : num (aheadD k a m) = (num a + k + 10 * num m) % tenP a.length := by
  induction a generalizing m k with
  | nil => cases m with
    | nil => simp [aheadD, num, tenP]
    | cons => simp at h
  | cons x xs ih => cases m with
    | nil => simp at h
    | cons y ys =>
      simp only [List.length_cons, Nat.succ.injEq] at h
      have := ih (y + (x + k) / 10) ys h
      simp only [aheadD, num, List.length_cons, tenP, this]
      have e : num xs + (y + (x + k) / 10) + 10 * num ys = (x + k) / 10 + (num xs + y + 10 * num ys) := by omega
      rw [e, emod_ten _ _ _ (tenP_pos _)]
      congr 1
      omega
/-- Turning and carrying at once adds. -/
theorem ahead_adds (a b : List Int) (h : a.length = b.length) : aheadD 0 (turnD a b) (passD a b) = shown (num a + num b) a.length := by
  have hl : (turnD a b).length = (passD a b).length := by rw [turnD_length _ _ h, passD_length _ _ h]
  refine num_inj _ _ (aheadD_digs _ _ _) (shown_digs _ _) (by rw [aheadD_length _ _ _ hl, turnD_length _ _ h, shown_length]) ?_
  rw [num_ahead _ _ _ hl, num_shown, turnD_length _ _ h]
  have := num_turn a b h
  congr 1
  omega

/-- A byte is a digit's. -/
def isDig (c : UInt8) : Bool := 48 ≤ c && c ≤ 57
/-- A byte is a mark. -/
def isMark (c : UInt8) : Bool := c == 48 || c == 49
theorem isDig_iff (c : UInt8) : isDig c = true ↔ 48 ≤ (c.toNat : Int) ∧ (c.toNat : Int) ≤ 57 := by
  unfold isDig
  rw [Bool.and_eq_true, decide_eq_true_eq, decide_eq_true_eq, UInt8.le_iff_toNat_le, UInt8.le_iff_toNat_le]
  simp
  omega
/-- A string is a column. -/
def colOk (l : List UInt8) : Bool := l.all isDig && decide (1 ≤ l.length) && decide (l.length ≤ 12)
theorem colOk_iff (l : List UInt8) : colOk l = true ↔ (∀ c ∈ l, 48 ≤ (c.toNat : Int) ∧ (c.toNat : Int) ≤ 57) ∧ 1 ≤ l.length ∧ l.length ≤ 12 := by
  unfold colOk
  rw [Bool.and_eq_true, Bool.and_eq_true, decide_eq_true_eq, decide_eq_true_eq, List.all_eq_true]
  simp only [isDig_iff]
  constructor
  · rintro ⟨⟨a, b⟩, c⟩; exact ⟨a, b, c⟩
  · rintro ⟨a, b, c⟩; exact ⟨⟨a, b⟩, c⟩
/-- The digits of a text, the lowest first. -/
def dg (l : List UInt8) : List Int := l.reverse.map fun c => (c.toNat : Int) - 48
/-- The text of digits. -/
def txt (ds : List Int) : List UInt8 := (ds.map fun d => UInt8.ofNat (48 + d).toNat).reverse
theorem dg_length (l : List UInt8) : (dg l).length = l.length := by simp [dg]
theorem txt_length (l : List Int) : (txt l).length = l.length := by simp [txt]
theorem dg_snoc (l : List UInt8) (c : UInt8) : dg (l ++ [c]) = ((c.toNat : Int) - 48) :: dg l := by simp [dg]
theorem txt_cons (d : Int) (ds : List Int) : txt (d :: ds) = txt ds ++ [UInt8.ofNat (48 + d).toNat] := by simp [txt]
theorem dg_digs (l : List UInt8) (h : ∀ c ∈ l, 48 ≤ (c.toNat : Int) ∧ (c.toNat : Int) ≤ 57) : digs (dg l) := by
  intro d hd
  simp only [dg, List.mem_map, List.mem_reverse] at hd
  obtain ⟨c, hc, rfl⟩ := hd
  have := h c hc
  omega
theorem byte_of (d : Int) (h : 0 ≤ d ∧ d ≤ 9) : ((UInt8.ofNat (48 + d).toNat).toNat : Int) = 48 + d := by
  simp only [UInt8.toNat_ofNat']
  omega
theorem dg_txt (ds : List Int) (h : digs ds) : dg (txt ds) = ds := by
  induction ds with
  | nil => rfl
  | cons d ds ih =>
    obtain ⟨a, b⟩ := digs_cons.1 h
    rw [txt_cons, dg_snoc, ih b, byte_of d a]
    congr 1
    omega
theorem txt_dg (l : List UInt8) (h : ∀ c ∈ l, 48 ≤ (c.toNat : Int) ∧ (c.toNat : Int) ≤ 57) : txt (dg l) = l := by
  have : ∀ l : List UInt8, (∀ c ∈ l, 48 ≤ (c.toNat : Int) ∧ (c.toNat : Int) ≤ 57) → txt (l.map fun c => (c.toNat : Int) - 48) = l.reverse := by
    intro l h
    unfold txt
    congr 1
    rw [List.map_map]
    conv => rhs; rw [← List.map_id l]
    refine List.map_congr_left fun c hc => ?_
    have := h c hc
    simp only [Function.comp, id]
    have e : (48 + ((c.toNat : Int) - 48)).toNat = c.toNat := by omega
    rw [e]
    exact UInt8.ofNat_toNat
  have := this l.reverse fun c hc => h c (List.mem_reverse.1 hc)
  rw [List.reverse_reverse] at this
  exact this
theorem txt_ok (ds : List Int) (h : digs ds) : ∀ c ∈ txt ds, 48 ≤ (c.toNat : Int) ∧ (c.toNat : Int) ≤ 57 := by
  intro c hc
  simp only [txt, List.mem_reverse, List.mem_map] at hc
  obtain ⟨d, hd, rfl⟩ := hc
  have := h d hd
  rw [byte_of d this]
  omega
/-- The number that a text of digits shows. -/
def val (l : List UInt8) : Int := num (dg l)
theorem val_snoc (l : List UInt8) (c : UInt8) : val (l ++ [c]) = 10 * val l + ((c.toNat : Int) - 48) := by
  unfold val
  rw [dg_snoc, num]
  omega
theorem val_nil : val [] = 0 := rfl
theorem val_bd (l : List UInt8) (h : ∀ c ∈ l, 48 ≤ (c.toNat : Int) ∧ (c.toNat : Int) ≤ 57) : 0 ≤ val l ∧ val l < tenP l.length := by
  have := num_bd _ (dg_digs l h)
  rw [dg_length] at this
  exact this
/-- The column of w wheels that shows a number, modulo its size. -/
def showB (n : Int) (w : Nat) : List UInt8 := txt (shown n w)
theorem showB_length (n : Int) (w : Nat) : (showB n w).length = w := by simp [showB, txt_length, shown_length]
theorem showB_ok (n : Int) (w : Nat) : ∀ c ∈ showB n w, 48 ≤ (c.toNat : Int) ∧ (c.toNat : Int) ≤ 57 := txt_ok _ (shown_digs n w)
theorem showB_mod (n : Int) (w : Nat) : showB (n % tenP w) w = showB n w := by rw [showB, shown_mod, showB]
theorem val_showB (n : Int) (w : Nat) : val (showB n w) = n % tenP w := by rw [val, showB, dg_txt _ (shown_digs n w), num_shown]
theorem showB_val (l : List UInt8) (h : ∀ c ∈ l, 48 ≤ (c.toNat : Int) ∧ (c.toNat : Int) ≤ 57) : showB (val l) l.length = l := by
  rw [showB, val, ← dg_length l, shown_num _ (dg_digs l h), txt_dg l h]
theorem showB_succ (n : Int) (w : Nat) : showB n (w + 1) = showB (n / 10) w ++ [UInt8.ofNat (48 + n % 10).toNat] := by
  rw [showB, shown, txt_cons, showB]
theorem val_inj (a b : List UInt8) (ha : ∀ c ∈ a, 48 ≤ (c.toNat : Int) ∧ (c.toNat : Int) ≤ 57) (hb : ∀ c ∈ b, 48 ≤ (c.toNat : Int) ∧ (c.toNat : Int) ≤ 57) (hl : a.length = b.length) (h : val a = val b) : a = b := by
  rw [← showB_val a ha, ← showB_val b hb, hl, h]
/-- A column of a width can stand for a number. -/
def fits (n : Int) (w : Nat) : Bool := decide (-(tenP w / 2) ≤ n) && decide (n < tenP w / 2)
/-- The number that a column stands for. -/
def sgn (l : List UInt8) : Int := if tenP l.length / 2 ≤ val l then val l - tenP l.length else val l
/-- Without the leading and trailing bytes of a set, nothing is left exactly if all are of the set. -/
theorem trim_nil (p : UInt8 → Bool) (l : List UInt8) : (((l.reverse.dropWhile p).reverse).dropWhile p = []) ↔ ∀ c ∈ l, p c = true := by
  have dw : ∀ l : List UInt8, l.dropWhile p = [] ↔ ∀ c ∈ l, p c = true := by
    intro l
    induction l with
    | nil => simp
    | cons x xs ih =>
      rw [List.dropWhile_cons]
      by_cases h : p x = true
      · rw [if_pos h, ih]; simp [h]
      · rw [if_neg h]; simp [h]
  constructor
  · intro h
    rw [dw] at h
    have h2 : l.reverse.dropWhile p = [] := by
      cases e : l.reverse.dropWhile p with
      | nil => rfl
      | cons x xs =>
        have hx : ¬ p x = true := by
          have := List.head_dropWhile_not p (l := l.reverse) (by rw [e]; simp)
          simp [e] at this
          simp [this]
        exact absurd (h x (by rw [e]; simp)) hx
    rw [dw] at h2
    exact fun c hc => h2 c (List.mem_reverse.2 hc)
  · intro h
    have : l.reverse.dropWhile p = [] := (dw _).2 fun c hc => h c (List.mem_reverse.1 hc)
    rw [this]
    rfl
/-- What is left of a number when k digits have been taken. -/
def rst (m : Int) : Nat → Int
  | 0 => m
  | k + 1 => rst m k / 10
theorem rst_div (m : Int) (k : Nat) : rst (m / 10) k = rst m k / 10 := by
  induction k with
  | zero => rfl
  | succ k ih => rw [rst, ih, rst]
theorem shown_snoc (m : Int) (k : Nat) : shown m (k + 1) = shown m k ++ [rst m k % 10] := by
  induction k generalizing m with
  | zero => rfl
  | succ k ih => rw [shown, ih, shown, rst_div, List.cons_append, rst]
theorem rst_bd (m : Int) (k : Nat) (h : 0 ≤ m) : 0 ≤ rst m k ∧ rst m k ≤ m := by
  induction k with
  | zero => exact ⟨h, Int.le_refl _⟩
  | succ k ih => rw [rst]; omega
/-- The wheels of a row: twelve, those past the width 0. -/
def pad (ds : List Int) : List Int := ds ++ List.replicate (12 - ds.length) 0
theorem pad_length (ds : List Int) (h : ds.length ≤ 12) : (pad ds).length = 12 := by simp [pad]; omega
theorem pad_at (ds : List Int) (k : Nat) (h : k < ds.length) : (pad ds)[k]? = ds[k]? := by
  rw [pad, List.getElem?_append_left h]
theorem pad_out (ds : List Int) (k : Nat) (h : ds.length ≤ k) (h2 : k < 12) : (pad ds)[k]? = some 0 := by
  rw [pad, List.getElem?_append_right h, List.getElem?_replicate, if_pos (by omega)]
theorem pad_set (ds : List Int) (d : Int) (h : ds.length < 12) : (pad ds).set ds.length d = pad (ds ++ [d]) := by
  unfold pad
  rw [List.set_append_right _ _ (Nat.le_refl _), Nat.sub_self, List.length_append, List.length_singleton]
  have e : 12 - ds.length = (12 - (ds.length + 1)) + 1 := by omega
  rw [e, List.replicate_succ, List.set_cons_zero, List.append_assoc, List.singleton_append]
theorem take_get (l : List Int) (k : Nat) (d : Int) (h : l[k]? = some d) : l.take (k + 1) = l.take k ++ [d] := by
  rw [List.take_add_one, h]; rfl
theorem txt_snoc (l : List Int) (d : Int) : txt (l ++ [d]) = UInt8.ofNat (48 + d).toNat :: txt l := by simp [txt]
end Go.Proofs.YtffmhcahiabicaaDoor
