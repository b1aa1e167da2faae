/-
  Texts of polynomials: what is written is read again, and a text that no polynomial has is refused. No conditions.
-/
import Derived.Test.YtoahialihfijjaaDoorStrF
import Derived.Test.YtoahialihfijjaaDoorStrC
import Derived.Test.YtoahialihfijjaaDoorShSpl
import Derived.Shelf.Strings.SplitShaped
namespace Go.Proofs.YtoahialihfijjaaDoor
set_option maxRecDepth 4000
open Go.RowKit Go.Shelf
theorem index_sep (c : UInt8) (r : List UInt8) : ∀ x : List UInt8, c ∉ x → Lib.index (x ++ c :: r) [c] = x.length
  | [], _ => by simp [Lib.index]
  | b :: t, h => by
    have hb : ¬ c = b := fun e => h (by simp [e])
    have ih := index_sep c r t (fun hm => h (by simp [hm]))
    have hm : ((t.length : Int) == -1) = false := beq_eq_false_iff_ne.2 (by omega)
    rw [List.cons_append, Lib.index]
    simp [hb, ih, hm]
theorem index_nosep (c : UInt8) : ∀ x : List UInt8, c ∉ x → Lib.index x [c] = -1
  | [], _ => by simp [Lib.index]
  | b :: t, h => by
    have hb : ¬ c = b := fun e => h (by simp [e])
    have ih := index_nosep c t (fun hm => h (by simp [hm]))
    rw [Lib.index]
    simp [hb, ih]
theorem splitK_join (c : UInt8) : ∀ (xs : List (List UInt8)) (k : Nat), xs ≠ [] → (∀ x ∈ xs, c ∉ x) → xs.length ≤ k + 1 → Lib.splitK [c] 0 k (Lib.join xs [c]) = xs
  | [], _, h, _, _ => absurd rfl h
  | [x], k, _, h, _ => by
    rw [Lib.join_one]
    cases k with
    | zero => rfl
    | succ k =>
      rw [Lib.splitK, if_pos (by rw [index_nosep c x (h x (by simp))]; rfl)]
  | x :: y :: r, k, _, h, hl => by
    have e : Lib.join (x :: y :: r) [c] = x ++ c :: Lib.join (y :: r) [c] := by
      rw [Lib.join_cons, Lib.join_cons]
      simp [Lib.joinTail]
    cases k with
    | zero => simp at hl
    | succ k =>
      have hi := index_sep c (Lib.join (y :: r) [c]) x (h x (by simp))
      rw [e, Lib.splitK, if_neg (by rw [hi, beq_iff_eq]; omega), hi]
      have ih := splitK_join c (y :: r) k (by simp) (fun z hz => h z (by simp [hz])) (by simpa using hl)
      rw [show ((x.length : Int).toNat + 0) = x.length by omega, show (x.length : Int).toNat + [c].length = x.length + 1 by simp]
      rw [List.take_left' rfl, ← List.drop_drop, List.drop_left' rfl]
      simp only [List.drop_succ_cons, List.drop_zero]
      rw [ih]
theorem space_dec (x : Int) : (32 : UInt8) ∉ Lib.itoa x := by
  intro h
  have := itoa_bytes x 32 h
  simp at this
/-- What the model reads of a text. -/
def ppO (t : ByteArray) : List Int := ((cutL 32 t.data.toList).take 8).map fun l => (numL l).getD 0
def ppB (t : ByteArray) : Bool := decide (fpB (ppO t) = t)
theorem fpB_ok (p : List Int) (h : polyOk p = true) : fpB p = ⟨(textL p).toArray⟩ := by unfold fpB; rw [if_pos h]
theorem ppO_text (p : List Int) (h : polyOk p = true) : ppO (fpB p) = p := by
  have ⟨h1, h7, hz⟩ := (listOk_iff _ _ _).1 h
  have hne : p.map Lib.itoa ≠ [] := fun e => by
    have := congrArg List.length e
    rw [List.length_map] at this
    simp at this
    rw [this] at h1
    simp at h1
  unfold ppO
  rw [fpB_ok p h]
  show ((cutL 32 (textL p)).take 8).map _ = p
  unfold textL
  rw [cutL_join 32 (p.map Lib.itoa) hne (fun x hx => by obtain ⟨y, _, rfl⟩ := List.mem_map.1 hx; exact space_dec y), List.take_of_length_le (by rw [List.length_map]; omega), List.map_map]
  have : ∀ x ∈ p, ((fun l => (numL l).getD 0) ∘ Lib.itoa) x = x := fun x hx => by
    have := hz x hx
    simp only [Function.comp]
    rw [numL_itoa x (by omega) (by omega)]
    rfl
  rw [List.map_congr_left this]
  simp
theorem text_ne_nil (p : List Int) (h : polyOk p = true) : textL p ≠ [] := by
  have ⟨h1, _, _⟩ := (listOk_iff _ _ _).1 h
  cases p with
  | nil => simp at h1
  | cons x r =>
    intro e
    unfold textL at e
    rw [List.map_cons, Lib.join_cons] at e
    exact itoa_ne x (List.append_eq_nil_iff.1 e).1
theorem fpB_some (p : List Int) (t : ByteArray) (h : fpB p = t) (h0 : 0 < t.size) : polyOk p = true := by
  unfold fpB at h
  by_cases hk : polyOk p = true
  · exact hk
  · rw [if_neg hk] at h
    rw [← h] at h0
    simp [ByteArray.size] at h0
theorem ppO_nil : ppO ⟨#[]⟩ = [0] := by decide
theorem ppB_pos (t : ByteArray) (h : ppB t = true) : polyOk (ppO t) = true ∧ 0 < t.size := by
  have h1 : fpB (ppO t) = t := of_decide_eq_true h
  by_cases h0 : 0 < t.size
  · exact ⟨fpB_some _ _ h1 h0, h0⟩
  · exfalso
    obtain rfl : t = ⟨#[]⟩ := by
      refine ByteArray.ext (Array.eq_empty_of_size_eq_zero ?_)
      show t.size = 0
      omega
    rw [ppO_nil, fpB_ok [0] (by decide)] at h1
    injection h1 with h1
    have h2 : textL [0] = [] := by simpa using congrArg Array.toList h1
    exact text_ne_nil [0] (by decide) h2
/-- The parts that the program reads. -/
def partsOf (t : ByteArray) : List ByteArray := Lib.splitB ⟨#[32]⟩ 0 (min 8 (t.size + 1) - 1) t
theorem parts_len (t : ByteArray) : (partsOf t).length ≤ 8 := by
  have := Lib.splitB_length_le ⟨#[32]⟩ 0 (min 8 (t.size + 1) - 1) t
  unfold partsOf
  omega
theorem parts_text (p : List Int) (h : polyOk p = true) : partsOf (fpB p) = p.map decB := by
  have ⟨h1, h7, hz⟩ := (listOk_iff _ _ _).1 h
  have hne : p.map Lib.itoa ≠ [] := fun e => by
    have := congrArg List.length e
    rw [List.length_map] at this
    simp at this
    rw [this] at h1
    simp at h1
  have hsz : p.length ≤ (fpB p).size + 1 := by
    rw [fpB_ok p h]
    show p.length ≤ (textL p).toArray.size + 1
    rw [List.size_toArray]
    unfold textL
    cases p with
    | nil => exact Nat.zero_le _
    | cons x r =>
      rw [List.map_cons, Lib.join_length, ← List.map_cons]
      simp only [List.length_map, List.length_cons, List.length_nil]
      omega
  have hd := Lib.splitB_data ⟨#[32]⟩ 0 (min 8 ((fpB p).size + 1) - 1) (fpB p)
  have hs : Lib.splitK [32] 0 (min 8 ((fpB p).size + 1) - 1) (fpB p).data.toList = p.map Lib.itoa := by
    have e : (fpB p).data.toList = Lib.join (p.map Lib.itoa) [32] := by rw [fpB_ok p h]; rfl
    rw [e]
    exact splitK_join 32 _ _ hne (fun x hx => by obtain ⟨y, _, rfl⟩ := List.mem_map.1 hx; exact space_dec y) (by rw [List.length_map]; omega)
  change (partsOf (fpB p)).map (·.data.toList) = Lib.splitK [32] 0 _ _ at hd
  rw [hs] at hd
  have key : (partsOf (fpB p)) = ((partsOf (fpB p)).map (·.data.toList)).map fun l => (⟨l.toArray⟩ : ByteArray) := by
    rw [List.map_map]
    exact (List.map_id' _).symm
  rw [key, hd, List.map_map]
  rfl
/-- What the program reads of a part. -/
def atK (s : ByteArray) : Bool := match Lib.atoiAll s.data.toList with | .ok _ => true | _ => false
def atV (s : ByteArray) : Int := match Lib.atoiAll s.data.toList with | .ok v => v | _ => 0
theorem atK_yes (s : ByteArray) (h : atK s = true) : Lib.atoiAll s.data.toList = .ok (atV s) := by
  unfold atK at h
  unfold atV
  cases hk : Lib.atoiAll s.data.toList with
  | ok v => rfl
  | «syntax» => rw [hk] at h; cases h
  | range => rw [hk] at h; cases h
theorem atK_no (s : ByteArray) (h : atK s = false) (v : Int) : Lib.atoiAll s.data.toList ≠ .ok v := by
  intro e
  unfold atK at h
  rw [e] at h
  cases h
theorem at_dec (x : Int) (h0 : -9223372036854775808 ≤ x) (h1 : x ≤ 9223372036854775807) : atK (decB x) = true ∧ atV (decB x) = x := by
  have e : Lib.atoiAll (decB x).data.toList = .ok x := atoi_itoa x h0 h1
  unfold atK atV
  rw [e]
  exact ⟨rfl, rfl⟩
/-- If a text is that of a polynomial, the program reads it. -/
theorem parts_of_ppB (t : ByteArray) (h : ppB t = true) : (∀ s ∈ partsOf t, atK s = true) ∧ (partsOf t).map atV = ppO t := by
  have ⟨hk, h0⟩ := ppB_pos t h
  have h1 : fpB (ppO t) = t := of_decide_eq_true h
  have hp := parts_text (ppO t) hk
  rw [h1] at hp
  have ⟨_, _, hz⟩ := (listOk_iff _ _ _).1 hk
  rw [hp]
  refine ⟨fun s hs => ?_, ?_⟩
  · obtain ⟨x, hx, rfl⟩ := List.mem_map.1 hs
    have := hz x hx
    exact (at_dec x (by omega) (by omega)).1
  · rw [List.map_map]
    have : ∀ x ∈ ppO t, (atV ∘ decB) x = x := fun x hx => by
      have := hz x hx
      exact (at_dec x (by omega) (by omega)).2
    rw [List.map_congr_left this]
    simp
theorem ppB_of_parts (t : ByteArray) (hk : ∀ s ∈ partsOf t, atK s = true) (hf : fpB ((partsOf t).map atV) = t) : ppB t = true ∧ ppO t = (partsOf t).map atV := by
  have h0 : 0 < t.size := by
    refine Nat.pos_of_ne_zero fun h => ?_
    obtain rfl : t = ⟨#[]⟩ := ByteArray.ext (Array.eq_empty_of_size_eq_zero h)
    have := hk ⟨#[]⟩ (by unfold partsOf; simp [Lib.splitB, ByteArray.size])
    exact absurd this (by decide)
  have hp := fpB_some _ _ hf h0
  have h2 := ppO_text _ hp
  rw [hf] at h2
  exact ⟨decide_eq_true (by rw [h2]; exact hf), h2⟩
end Go.Proofs.YtoahialihfijjaaDoor
