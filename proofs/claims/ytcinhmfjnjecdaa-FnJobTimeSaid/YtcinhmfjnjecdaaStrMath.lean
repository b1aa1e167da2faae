/-
  Decimal texts of numbers, and texts of several of them with a separator between: what is written is read again. No conditions.
  The model's own decimal texts: what is written is the text that the library writes. Condition: an int.
-/
import Derived.Lib.ItoaNum
import Derived.Lib.ItoaMem
import Derived.Lib.ItoaLen
import Derived.Lib.AtoiAllCases
import Derived.Lib.SplitLaws
import Derived.Lib.Join
import Derived.Test.YtcinhmfjnjecdaaBase
import Derived.Deep.RegionWith
namespace Go.Proofs.Ytcinhmfjnjecdaa
set_option maxRecDepth 4000
open Go.Lib
/-- A digit. -/
def dgt (c : UInt8) : Bool := decide (48 ≤ c.toNat) && decide (c.toNat ≤ 57)
theorem dgt_iff (c : UInt8) : dgt c = true ↔ 48 ≤ c.toNat ∧ c.toNat ≤ 57 := by simp [dgt]
/-- The number that digits spell, behind acc. -/
def spell (acc : Nat) (l : List UInt8) : Nat := l.foldl (fun a c => a * 10 + (c.toNat - 48)) acc
theorem spell_nil (acc : Nat) : spell acc [] = acc := by unfold spell; rw [List.foldl_nil]
theorem spell_cons (acc : Nat) (c : UInt8) (r : List UInt8) : spell acc (c :: r) = spell (acc * 10 + (c.toNat - 48)) r := by unfold spell; rw [List.foldl_cons]
theorem spell_one (acc : Nat) (c : UInt8) : spell acc [c] = acc * 10 + (c.toNat - 48) := by rw [spell_cons, spell_nil]
theorem spell_append (l r : List UInt8) (acc : Nat) : spell acc (l ++ r) = spell (spell acc l) r := by unfold spell; rw [List.foldl_append]
theorem spell_ge (l : List UInt8) : ∀ acc, acc ≤ spell acc l := by
  induction l with
  | nil => intro acc; rw [spell_nil]; exact Nat.le_refl _
  | cons c l ih => intro acc; rw [spell_cons]; exact Nat.le_trans (by omega) (ih _)
theorem spell_lt (l : List UInt8) (h : l.all dgt = true) : ∀ acc, spell acc l < (acc + 1) * 10 ^ l.length := by
  induction l with
  | nil =>
    intro acc
    rw [spell_nil, List.length_nil]
    omega
  | cons c l ih =>
    intro acc
    rw [List.all_cons, Bool.and_eq_true, dgt_iff] at h
    have h1 := ih h.2 (acc * 10 + (c.toNat - 48))
    have h2 : (acc * 10 + (c.toNat - 48) + 1) * 10 ^ l.length ≤ ((acc + 1) * 10) * 10 ^ l.length := Nat.mul_le_mul_right _ (by omega)
    rw [List.length_cons, Nat.pow_succ, Nat.mul_comm (10 ^ l.length) 10, ← Nat.mul_assoc]
    rw [spell_cons]
    exact Nat.lt_of_lt_of_le h1 h2
theorem ofNat_dig (d : Nat) (h : d < 10) : (UInt8.ofNat (48 + d)).toNat = 48 + d := by
  simp only [UInt8.toNat_ofNat']
  omega
theorem dec_all (u : Nat) : (decDigits u).all dgt = true := by
  induction u using Nat.strongRecOn with
  | _ u ih =>
    rw [decDigits]
    split
    · rename_i h
      rw [List.all_cons, List.all_nil, Bool.and_true, dgt_iff, ofNat_dig u h]
      omega
    · have := ih (u / 10) (by omega)
      rw [List.all_append, this]
      simp only [List.all_cons, List.all_nil, Bool.and_true, Bool.true_and, dgt_iff, ofNat_dig (u % 10) (by omega)]
      omega
theorem dec_ne (u : Nat) : decDigits u ≠ [] := by
  rw [decDigits]
  split <;> simp
theorem dec_spell (u : Nat) : spell 0 (decDigits u) = u := by
  induction u using Nat.strongRecOn with
  | _ u ih =>
    rw [decDigits]
    split
    · rename_i h
      rw [spell_one, ofNat_dig u h]
      omega
    · rw [spell_append, ih (u / 10) (by omega), spell_one, ofNat_dig (u % 10) (by omega)]
      omega
theorem dec_head (u : Nat) : ∀ c r, decDigits u = c :: r → c.toNat = 48 → u = 0 := by
  induction u using Nat.strongRecOn with
  | _ u ih =>
    intro c r h hc
    rw [decDigits] at h
    split at h
    · rename_i hu
      injection h with h1 h2
      rw [← h1, ofNat_dig u hu] at hc
      omega
    · rename_i hu
      cases hd : decDigits (u / 10) with
      | nil => exact absurd hd (dec_ne _)
      | cons a t =>
        rw [hd] at h
        injection h with h1 h2
        have := ih (u / 10) (by omega) c t (by rw [hd, h1]) hc
        omega
theorem dig_back (c : UInt8) (h : dgt c = true) : UInt8.ofNat (48 + (c.toNat - 48)) = c := by
  rw [dgt_iff] at h
  rw [show 48 + (c.toNat - 48) = c.toNat by omega]
  simp
theorem spell_pos (c : UInt8) (r : List UInt8) (h : dgt c = true) (hc : c.toNat ≠ 48) : 1 ≤ spell 0 (c :: r) := by
  rw [dgt_iff] at h
  rw [spell_cons]
  exact Nat.le_trans (by omega) (spell_ge r (0 * 10 + (c.toNat - 48)))
theorem spell_dec_rev (l : List UInt8) : ∀ c r, l.reverse = c :: r → l.reverse.all dgt = true → (c.toNat ≠ 48 ∨ r = []) → decDigits (spell 0 l.reverse) = l.reverse := by
  induction l with
  | nil => intro c r h; simp at h
  | cons d m ih =>
    intro c r h ha hc
    rw [List.reverse_cons] at h ha ⊢
    rw [List.all_append, Bool.and_eq_true] at ha
    have hd : dgt d = true := by simpa using ha.2
    rw [spell_append]
    cases hm : m.reverse with
    | nil =>
      have h2 := (dgt_iff d).1 hd
      rw [show spell (spell 0 []) [d] = d.toNat - 48 by rw [spell_nil, spell_one]; omega, decDigits_one (by omega), dig_back d hd]
      rfl
    | cons a t =>
      rw [hm] at h
      injection h with h1 h2
      subst h1
      have hne : a.toNat ≠ 48 := by
        rcases hc with hc | hc
        · exact hc
        · rw [hc] at h2; simp at h2
      have hi := ih a t hm ha.1 (Or.inl hne)
      rw [hm] at hi ha
      have hp := spell_pos a t (by have := ha.1; rw [List.all_cons, Bool.and_eq_true] at this; exact this.1) hne
      have h2 := (dgt_iff d).1 hd
      rw [spell_one]
      generalize spell 0 (a :: t) = q at *
      rw [decDigits, dif_neg (by omega), show (q * 10 + (d.toNat - 48)) / 10 = q by omega, hi, show (q * 10 + (d.toNat - 48)) % 10 = d.toNat - 48 by omega, dig_back d hd]
theorem spell_dec (c : UInt8) (r : List UInt8) (ha : (c :: r).all dgt = true) (hc : c.toNat ≠ 48 ∨ r = []) : decDigits (spell 0 (c :: r)) = c :: r := by
  have := spell_dec_rev (c :: r).reverse c r (by simp) (by simpa using ha) hc
  simpa using this
theorem parse_ok (l : List UInt8) (h : l.all dgt = true) : ∀ acc, spell acc l < 18446744073709551616 → parseUint10 acc l = .ok (spell acc l) := by
  induction l with
  | nil => intro acc _; rw [spell_nil]; rfl
  | cons c r ih =>
    intro acc hlt
    rw [List.all_cons, Bool.and_eq_true] at h
    have hd := (dgt_iff c).1 h.1
    have hge := spell_ge r (acc * 10 + (c.toNat - 48))
    rw [spell_cons] at hlt ⊢
    rw [parseUint10, if_pos hd, if_neg (by omega), if_neg (by omega)]
    exact ih h.2 _ hlt
theorem mag_ok (l : List UInt8) (hn : l ≠ []) (h : l.all dgt = true) (hlt : spell 0 l < 18446744073709551616) : parseMag l = .ok (spell 0 l) := by
  unfold parseMag
  rw [if_neg hn, parse_ok l h 0 hlt]
/-- What is written is read again. -/
theorem atoi_itoa (n : Int) (h0 : -9223372036854775808 ≤ n) (h1 : n ≤ 9223372036854775807) : atoiAll (itoa n) = .ok n := by
  unfold itoa
  by_cases hn : n < 0
  · rw [if_pos hn, atoiAll_minus, mag_ok _ (dec_ne _) (dec_all _) (by rw [dec_spell]; omega), dec_spell]
    simp only [signed]
    rw [if_neg (by omega)]
    congr 1
    omega
  · rw [if_neg hn]
    cases hd : decDigits n.toNat with
    | nil => exact absurd hd (dec_ne _)
    | cons c r =>
      have ha := dec_all n.toNat
      rw [hd, List.all_cons, Bool.and_eq_true, dgt_iff] at ha
      rw [atoiAll_plain c r (by omega) (by omega), ← hd, mag_ok _ (dec_ne _) (dec_all _) (by rw [dec_spell]; omega), dec_spell]
      simp only [signless]
      rw [if_neg (by omega)]
      congr 1
      omega
/-- Digits without a needless zero, at most 17 of them. -/
def canL (neg : Bool) (l : List UInt8) : Bool := match l with
  | [] => false
  | c :: r => decide ((c :: r).length ≤ 17) && (!(decide (c.toNat = 48) && (neg || !r.isEmpty)) && (c :: r).all dgt)
/-- A number in its own decimal text of at most 17 digits. -/
def numL (l : List UInt8) : Option Int := match l with
  | [] => none
  | c :: r => if c.toNat = 45 then (if canL true r then some (-(spell 0 r : Nat) : Int) else none) else (if canL false (c :: r) then some (spell 0 (c :: r) : Nat) else none)
theorem canL_dec (neg : Bool) (u : Nat) (h : u < 100000000000000000) (h0 : neg = true → u ≠ 0) : canL neg (decDigits u) = true := by
  have hlen : (decDigits u).length ≤ 17 := by
    rw [decDigits_length]
    refine Nat.le_of_not_lt fun hc => ?_
    have : ∀ k v, v < 10 ^ (k + 1) → nDigits v ≤ k + 1 := by
      intro k
      induction k with
      | zero => intro v hv; rw [nDigits_small (by simpa using hv)]; exact Nat.le_refl _
      | succ k ih =>
        intro v hv
        by_cases hs : v < 10
        · rw [nDigits_small hs]; omega
        · rw [nDigits_big hs]
          have := ih (v / 10) (by rw [Nat.pow_succ] at hv; omega)
          omega
    have := this 16 u (by simpa using h)
    omega
  cases hd : decDigits u with
  | nil => exact absurd hd (dec_ne _)
  | cons c r =>
    have ha := dec_all u
    rw [hd] at ha hlen
    simp only [canL, decide_eq_true hlen, ha, Bool.and_true, Bool.true_and, Bool.not_eq_true', Bool.and_eq_false_iff, decide_eq_false_iff_not, Bool.or_eq_false_iff, Bool.not_eq_false']
    by_cases hc : c.toNat = 48
    · have hu := dec_head u c r hd hc
      subst hu
      rw [decDigits_one (by omega)] at hd
      injection hd with _ hr
      refine Or.inr ⟨?_, by rw [← hr]; rfl⟩
      cases neg with
      | false => rfl
      | true => exact absurd rfl (h0 rfl)
    · exact Or.inl hc
theorem numL_itoa (n : Int) (h0 : -100000000000000000 < n) (h1 : n < 100000000000000000) : numL (itoa n) = some n := by
  unfold itoa
  by_cases hn : n < 0
  · rw [if_pos hn]
    simp only [numL]
    rw [if_pos (by rfl), canL_dec true _ (by omega) (fun _ => by omega), if_pos rfl, dec_spell]
    congr 1
    omega
  · rw [if_neg hn]
    have hc := canL_dec false n.toNat (by omega) (fun h => by cases h)
    have hs := dec_spell n.toNat
    have ha := dec_all n.toNat
    cases hd : decDigits n.toNat with
    | nil => exact absurd hd (dec_ne _)
    | cons c r =>
      rw [hd] at hc hs ha
      rw [List.all_cons, Bool.and_eq_true, dgt_iff] at ha
      simp only [numL]
      rw [if_neg (by omega), hc, if_pos rfl, hs]
      congr 1
      omega
theorem numL_some (l : List UInt8) (n : Int) (h : numL l = some n) : itoa n = l ∧ -100000000000000000 < n ∧ n < 100000000000000000 := by
  cases l with
  | nil => cases h
  | cons c r =>
    simp only [numL] at h
    by_cases hm : c.toNat = 45
    · rw [if_pos hm] at h
      by_cases hc : canL true r = true
      · rw [if_pos hc] at h
        injection h with h
        cases r with
        | nil => cases hc
        | cons d t =>
          simp only [canL, Bool.and_eq_true, Bool.true_or, Bool.and_true, Bool.not_eq_true', decide_eq_false_iff_not, decide_eq_true_eq] at hc
          obtain ⟨hl, hz, ha⟩ := hc
          have hd : dgt d = true := by rw [List.all_cons, Bool.and_eq_true] at ha; exact ha.1
          have hp := spell_pos d t hd hz
          have hlt := spell_lt (d :: t) ha 0
          have hb : 10 ^ (d :: t).length ≤ 10 ^ 17 := Nat.pow_le_pow_right (by decide) hl
          refine ⟨?_, by omega, by omega⟩
          unfold itoa
          rw [if_pos (by omega), show n.natAbs = spell 0 (d :: t) by omega, spell_dec d t ha (Or.inl hz)]
          congr 1
          exact UInt8.toNat_inj.1 (by rw [hm]; rfl)
      · rw [if_neg hc] at h; cases h
    · rw [if_neg hm] at h
      by_cases hc : canL false (c :: r) = true
      · rw [if_pos hc] at h
        injection h with h
        simp only [canL, Bool.and_eq_true, Bool.false_or, Bool.not_eq_true', Bool.and_eq_false_iff, decide_eq_false_iff_not, decide_eq_true_eq, Bool.not_eq_false'] at hc
        obtain ⟨hl, hz, ha⟩ := hc
        have hlt := spell_lt (c :: r) ha 0
        have hb : 10 ^ (c :: r).length ≤ 10 ^ 17 := Nat.pow_le_pow_right (by decide) hl
        refine ⟨?_, by omega, by omega⟩
        unfold itoa
        rw [if_neg (by omega), show n.toNat = spell 0 (c :: r) by omega, spell_dec c r ha (hz.imp id (fun h => by simpa using h))]
      · rw [if_neg hc] at h; cases h
theorem itoa_ne (n : Int) : itoa n ≠ [] := by
  unfold itoa
  split
  · simp
  · exact dec_ne _
theorem itoa_bytes (n : Int) : ∀ c ∈ itoa n, c.toNat = 45 ∨ (48 ≤ c.toNat ∧ c.toNat ≤ 57) := by
  have key : ∀ u, ∀ c ∈ decDigits u, 48 ≤ c.toNat ∧ c.toNat ≤ 57 := fun u c hc => (dgt_iff c).1 (List.all_eq_true.1 (dec_all u) c hc)
  intro c hc
  unfold itoa at hc
  split at hc
  · rcases List.mem_cons.1 hc with rfl | h
    · exact Or.inl rfl
    · exact Or.inr (key _ c h)
  · exact Or.inr (key _ c hc)
/-- A text cut at each c. -/
def cutL (c : UInt8) : List UInt8 → List (List UInt8)
  | [] => [[]]
  | b :: r => if b = c then [] :: cutL c r else match cutL c r with
    | [] => [[b]]
    | x :: xs => (b :: x) :: xs
/-- What stands before the first piece is put to it. -/
def addHead (p : List UInt8) : List (List UInt8) → List (List UInt8)
  | [] => [p]
  | x :: xs => (p ++ x) :: xs
theorem cutL_ne (c : UInt8) (l : List UInt8) : cutL c l ≠ [] := by
  cases l with
  | nil => simp [cutL]
  | cons b r =>
    simp only [cutL]
    split
    · simp
    · split <;> simp
theorem cutL_hit (c : UInt8) (r : List UInt8) : cutL c (c :: r) = [] :: cutL c r := by simp [cutL]
theorem cutL_miss (b c : UInt8) (r : List UInt8) (h : b ≠ c) : cutL c (b :: r) = addHead [b] (cutL c r) := by
  simp only [cutL, if_neg h]
  cases cutL c r <;> simp [addHead]
theorem addHead_nil (l : List (List UInt8)) (h : l ≠ []) : addHead [] l = l := by
  cases l with
  | nil => exact absurd rfl h
  | cons x xs => simp [addHead]
theorem addHead_add (p q : List UInt8) (l : List (List UInt8)) (h : l ≠ []) : addHead p (addHead q l) = addHead (p ++ q) l := by
  cases l with
  | nil => exact absurd rfl h
  | cons x xs => simp [addHead]
theorem cutL_piece (c : UInt8) (x : List UInt8) (hx : c ∉ x) (r : List UInt8) : cutL c (x ++ r) = addHead x (cutL c r) := by
  induction x with
  | nil => exact (addHead_nil _ (cutL_ne c r)).symm
  | cons b t ih =>
    have hb : b ≠ c := fun e => hx (by simp [e])
    rw [List.cons_append, cutL_miss b c _ hb, ih (fun h => hx (by simp [h])), addHead_add _ _ _ (cutL_ne c r)]
    rfl
theorem cutL_join (c : UInt8) : ∀ xs : List (List UInt8), xs ≠ [] → (∀ x ∈ xs, c ∉ x) → cutL c (join xs [c]) = xs
  | [], h, _ => absurd rfl h
  | [x], _, h => by
    rw [join_one]
    have := cutL_piece c x (h x (by simp)) []
    rw [List.append_nil] at this
    rw [this]
    simp [cutL, addHead]
  | x :: y :: r, _, h => by
    have e : join (x :: y :: r) [c] = x ++ c :: join (y :: r) [c] := by
      rw [join_cons, join_cons]
      simp [joinTail]
    rw [e, cutL_piece c x (h x (by simp)), cutL_hit, cutL_join c (y :: r) (by simp) (fun z hz => h z (by simp [hz]))]
    simp [addHead]
end Go.Proofs.Ytcinhmfjnjecdaa
namespace Go.Proofs.Ytcinhmfjnjecdaa
set_option maxRecDepth 4000
open Go.RowKit
theorem bytes_append (a b : Array UInt8) : ((⟨a⟩ : ByteArray) ++ (⟨b⟩ : ByteArray)) = ⟨a ++ b⟩ := ByteArray.ext (by rw [ByteArray.data_append])
theorem dec_small (u : Nat) (h : u < 10) : Lib.decDigits u = [UInt8.ofNat (48 + u)] := by rw [Lib.decDigits, dif_pos h]
theorem dec_big (u : Nat) (h : ¬ u < 10) : Lib.decDigits u = Lib.decDigits (u / 10) ++ [UInt8.ofNat (48 + u % 10)] := by rw [Lib.decDigits, dif_neg h]
/-- 'string([]byte{byte('0' + d)})'. -/
theorem conv_dig (w : World) (d : Nat) (h : d < 10) (x : Int) (hx : x = 48 + (d : Int)) : (convert 22 9 (.slice (some ⟨w.heap.size, 0, none⟩) 1 1)).run Try.prog (w.alloc (.cells #[.int .u8 x] 5)) = .ok (.string ⟨#[UInt8.ofNat (48 + d)]⟩) (w.alloc (.cells #[.int .u8 x] 5)) := by
  subst hx
  refine run_convert_bytes_back (P := Try.prog) _ 22 9 5 ⟨w.heap.size, 0, none⟩ 1 [UInt8.ofNat (48 + d)] Try.underlying22 Try.underlying5 Try.underlying9 ?_
  intro j hj
  obtain rfl : j = 0 := by simpa using hj
  rw [show (⟨w.heap.size, 0, none⟩ : Addr).add 0 = ⟨w.heap.size, 0, none⟩ from rfl, World.cell?_alloc_at _ _ _ _ rfl]
  simp only [List.getElem_cons_zero, ofNat_dig d h]
  simp
theorem conv_byte (w : World) (d : Nat) (h : d < 10) (x : Int) (hx : x = 48 + (d : Int)) : ∃ c : UInt8, Hid (c = UInt8.ofNat (48 + d)) ∧ (convert 22 9 (.slice (some ⟨w.heap.size, 0, none⟩) 1 1)).run Try.prog (w.alloc (.cells #[.int .u8 x] 5)) = .ok (.string ⟨#[c]⟩) (w.alloc (.cells #[.int .u8 x] 5)) := ⟨_, hidH rfl, conv_dig w d h x hx⟩
theorem dec_len (n : Nat) (h1 : n ≤ 9223372036854775807) : (Lib.decDigits n).length ≤ 21 := by
  have := Lib.itoa_length_le n (by omega) (by omega)
  rwa [Lib.itoa_nonneg] at this
end Go.Proofs.Ytcinhmfjnjecdaa
