/-
  Plain mathematics of carries, without a program: carries in sequence end, what a turn does to the texts of columns, and what carrying at once adds. No conditions.
-/
import Derived.Test.YtffmhcahiabicaaDoorMath
namespace Go.Proofs.YtffmhcahiabicaaDoor
theorem turnD_zip (a b : List Int) : turnD a b = List.zipWith (fun x y => (x + y) % 10) a b := by
  induction a generalizing b with
  | nil => cases b <;> rfl
  | cons x xs ih => cases b with
    | nil => rfl
    | cons y ys => rw [turnD, ih, List.zipWith_cons_cons]
theorem passD_zip (a b : List Int) : passD a b = List.zipWith (fun x y => (x + y) / 10) a b := by
  induction a generalizing b with
  | nil => cases b <;> rfl
  | cons x xs ih => cases b with
    | nil => rfl
    | cons y ys => rw [passD, ih, List.zipWith_cons_cons]
/-- The byte that a digit is shown by. -/
def chr (d : Int) : UInt8 := UInt8.ofNat (48 + d).toNat
theorem zip_rev {α β γ : Type} (f : α → β → γ) (a : List α) (b : List β) (h : a.length = b.length) : List.zipWith f a.reverse b.reverse = (List.zipWith f a b).reverse := by
  induction a generalizing b with
  | nil => cases b <;> simp
  | cons x xs ih => cases b with
    | nil => simp at h
    | cons y ys =>
      simp only [List.length_cons, Nat.succ.injEq] at h
      rw [List.reverse_cons, List.reverse_cons, List.zipWith_append (by simp [h]), ih ys h, List.zipWith_cons_cons, List.zipWith_nil_left, List.zipWith_cons_cons, List.reverse_cons]
theorem txt_zip (f : Int → Int → Int) (a b : List UInt8) (h : a.length = b.length) : txt (List.zipWith f (dg a) (dg b)) = List.zipWith (fun x y : UInt8 => chr (f ((x.toNat : Int) - 48) ((y.toNat : Int) - 48))) a b := by
  unfold txt dg
  rw [List.zipWith_map, zip_rev _ _ _ h, ← List.map_reverse, List.reverse_reverse, List.map_zipWith]
  rfl
theorem txt_turn (a b : List UInt8) (h : a.length = b.length) : txt (turnD (dg a) (dg b)) = List.zipWith (fun x y : UInt8 => chr (((x.toNat : Int) - 48 + ((y.toNat : Int) - 48)) % 10)) a b := by
  rw [turnD_zip, txt_zip _ _ _ h]
theorem txt_pass (a b : List UInt8) (h : a.length = b.length) : txt (passD (dg a) (dg b)) = List.zipWith (fun x y : UInt8 => chr (((x.toNat : Int) - 48 + ((y.toNat : Int) - 48)) / 10)) a b := by
  rw [passD_zip, txt_zip _ _ _ h]
theorem take_zip {α β γ : Type} (f : α → β → γ) (a : List α) (b : List β) (k : Nat) (x : α) (y : β) (ha : a[k]? = some x) (hb : b[k]? = some y) : (List.zipWith f a b).take (k + 1) = (List.zipWith f a b).take k ++ [f x y] := by
  have : (List.zipWith f a b)[k]? = some (f x y) := by rw [List.getElem?_zipWith, ha, hb]
  rw [List.take_add_one, this]; rfl
/-- The lowest k marks are 0. -/
def lowZ (k : Nat) (m : List Int) : Prop := ∀ j d, j < k → m[j]? = some d → d = 0
theorem lowZ_num (m : List Int) (h : lowZ m.length m) : num m = 0 := by
  induction m with
  | nil => rfl
  | cons d ds ih =>
    have h0 := h 0 d (by simp) rfl
    have := ih fun j e hj he => h (j + 1) e (by simp; omega) (by simpa using he)
    rw [num, h0, this]; rfl
theorem num_zero (m : List Int) (hm : digs m) (h : num m = 0) : ∀ d ∈ m, d = 0 := by
  induction m with
  | nil => intro d hd; simp at hd
  | cons x xs ih =>
    obtain ⟨a, b⟩ := digs_cons.1 hm
    have := num_bd xs b
    rw [num] at h
    intro d hd
    rcases List.mem_cons.1 hd with rfl | hd
    · omega
    · exact ih b (by omega) d hd
theorem lowZ_pass (k : Nat) (a m : List Int) (ha : digs a) (hl : a.length = m.length) (h : lowZ k m) : lowZ (k + 1) (passD a (upD m)) := by
  intro j d hj hd
  rw [passD_zip, List.getElem?_zipWith] at hd
  cases ea : a[j]? with
  | none => rw [ea] at hd; simp at hd
  | some x =>
    cases eb : (upD m)[j]? with
    | none => rw [ea, eb] at hd; simp at hd
    | some y =>
      rw [ea, eb] at hd
      simp only [Option.some.injEq] at hd
      have hx := ha x (List.mem_of_getElem? ea)
      have hjl : j < a.length := (List.getElem?_eq_some_iff.1 ea).1
      have hy : y = 0 := by
        rw [upD, List.getElem?_take, if_pos (by omega)] at eb
        cases j with
        | zero => simpa using eb.symm
        | succ j => rw [List.getElem?_cons_succ] at eb; exact h j y (by omega) eb
      subst hy
      omega
/-- Carries in sequence, at most f times, and how often. -/
def allD : Nat → List Int → List Int → List Int × Nat
  | 0, a, _ => (a, 0)
  | f + 1, a, m => if num m = 0 then (a, 0) else ((allD f (turnD a (upD m)) (passD a (upD m))).1, (allD f (turnD a (upD m)) (passD a (upD m))).2 + 1)
theorem allD_stop (f : Nat) (a m : List Int) (h : num m = 0) : allD f a m = (a, 0) := by
  cases f with
  | zero => rfl
  | succ f => rw [allD, if_pos h]
theorem allD_go (f : Nat) (a m : List Int) (h : num m ≠ 0) : allD (f + 1) a m = ((allD f (turnD a (upD m)) (passD a (upD m))).1, (allD f (turnD a (upD m)) (passD a (upD m))).2 + 1) := by
  rw [allD, if_neg h]
theorem num_snoc_zero (l : List Int) : num (l ++ [0]) = num l := by
  rw [num_append]; simp [num]
theorem num_take (l : List Int) (k : Nat) (h : digs l) (hk : k ≤ l.length) : num (l.take k) = num l % tenP k := by
  have e : num l = num (l.take k) + tenP (l.take k).length * num (l.drop k) := by rw [← num_append, List.take_append_drop]
  have hd : digs (l.take k) := fun d hd => h d (List.mem_of_mem_take hd)
  have hb := num_bd _ hd
  have hl : (l.take k).length = k := by rw [List.length_take]; omega
  rw [hl] at hb e
  rw [e, Int.add_mul_emod_self_left, Int.emod_eq_of_lt hb.1 hb.2]
theorem upD_digs (m : List Int) (h : digs m) : digs (upD m) := by
  intro d hd
  have := List.mem_of_mem_take hd
  rcases List.mem_cons.1 this with rfl | h'
  · omega
  · exact h d h'
theorem num_up (m : List Int) (h : digs m) : num (upD m) = (10 * num m) % tenP m.length := by
  rw [upD, num_take (0 :: m) m.length (digs_cons.2 ⟨by omega, h⟩) (by simp), num]
  congr 1
  omega
/-- Carrying at once adds the marks, moved up. -/
theorem ahead_up (a m : List Int) (hm : digs m) (hl : a.length = m.length) : aheadD 0 a m = shown (num a + num (upD m)) a.length := by
  refine num_inj _ _ (aheadD_digs _ _ _) (shown_digs _ _) (by rw [aheadD_length _ _ _ hl, shown_length]) ?_
  rw [num_ahead _ _ _ hl, num_shown, num_up _ hm, ← hl, Int.add_zero, Int.add_emod_emod]
/-- The number of places by which wheel k is moved when all carries are made from the lowest wheel up. -/
def cr (c : Int) : List Int → List Int → Nat → Int
  | _, _, 0 => c
  | d :: ds, m :: ms, k + 1 => cr (m + (d + c) / 10) ds ms k
  | _, _, _ + 1 => 0
theorem cr_step (c : Int) (A M : List Int) (k : Nat) (a m : Int) (ha : A[k]? = some a) (hm : M[k]? = some m) : cr c A M (k + 1) = m + (a + cr c A M k) / 10 := by
  induction k generalizing c A M with
  | zero =>
    cases A with
    | nil => simp at ha
    | cons x xs => cases M with
      | nil => simp at hm
      | cons y ys =>
        simp only [List.getElem?_cons_zero, Option.some.injEq] at ha hm
        subst ha hm
        simp [cr]
  | succ k ih =>
    cases A with
    | nil => simp at ha
    | cons x xs => cases M with
      | nil => simp at hm
      | cons y ys =>
        simp only [List.getElem?_cons_succ] at ha hm
        have := ih (y + (x + c) / 10) xs ys ha hm
        simpa [cr] using this
theorem ahead_at (c : Int) (A M : List Int) (k : Nat) (a m : Int) (ha : A[k]? = some a) (hm : M[k]? = some m) : (aheadD c A M)[k]? = some ((a + cr c A M k) % 10) := by
  induction k generalizing c A M with
  | zero =>
    cases A with
    | nil => simp at ha
    | cons x xs => cases M with
      | nil => simp at hm
      | cons y ys =>
        simp only [List.getElem?_cons_zero, Option.some.injEq] at ha hm
        subst ha hm
        simp [cr, aheadD]
  | succ k ih =>
    cases A with
    | nil => simp at ha
    | cons x xs => cases M with
      | nil => simp at hm
      | cons y ys =>
        simp only [List.getElem?_cons_succ] at ha hm
        have := ih (y + (x + c) / 10) xs ys ha hm
        simpa [cr, aheadD] using this
theorem cr_bd (A M : List Int) (hA : digs A) (hM : flags M) (hl : A.length = M.length) (k : Nat) (hk : k ≤ A.length) : 0 ≤ cr 0 A M k ∧ cr 0 A M k ≤ 2 := by
  induction k with
  | zero => cases A <;> cases M <;> simp [cr]
  | succ k ih =>
    have h := ih (by omega)
    have ea : A[k]? = some A[k] := List.getElem?_eq_getElem (by omega)
    have em : M[k]? = some M[k] := List.getElem?_eq_getElem (by omega)
    have b1 := hA _ (List.mem_of_getElem? ea)
    have b2 := hM _ (List.mem_of_getElem? em)
    rw [cr_step 0 A M k _ _ ea em]
    omega
theorem allD_facts (f n : Nat) (A M : List Int) (hA : A.length = n) (hM : M.length = n) (dA : digs A) : (allD f A M).1.length = n ∧ digs (allD f A M).1 := by
  induction f generalizing A M with
  | zero => exact ⟨hA, dA⟩
  | succ f ih =>
    rw [allD]
    split
    · exact ⟨hA, dA⟩
    · have ul : (upD M).length = n := by rw [upD_length, hM]
      exact ih _ _ (by rw [turnD_length _ _ (by omega), hA]) (by rw [passD_length _ _ (by omega), hA]) (turnD_digs _ _)
end Go.Proofs.YtffmhcahiabicaaDoor
