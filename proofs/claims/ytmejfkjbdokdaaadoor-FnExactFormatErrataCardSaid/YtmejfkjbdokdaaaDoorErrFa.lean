/-
  The text of errata: what it is and how long. No conditions.
-/
import Derived.Test.YtmejfkjbdokdaaaDoorStrF
import Derived.Test.YtmejfkjbdokdaaaDoorErrEf
namespace Go.Proofs.YtmejfkjbdokdaaaDoor
set_option maxRecDepth 4000
open Go.RowKit
/-- The text of one erratum. -/
def eTxt (F : List Int) (k : Nat) : List UInt8 := Lib.itoa (eAt F k) ++ [58] ++ Lib.itoa (eWr F k) ++ [62] ++ Lib.itoa (eRi F k)
/-- The texts of the first errata, with a semicolon between. -/
def eTexts (F : List Int) (n : Nat) : List UInt8 := Lib.join ((List.range n).map (eTxt F)) [59]
theorem eTexts_take (F : List Int) (k : Nat) : eTexts F (k + 1) = eTexts F k ++ (if 0 < k then [59] else []) ++ eTxt F k := by
  unfold eTexts
  rw [List.range_succ, List.map_append]
  by_cases h0 : 0 < k
  · rw [if_pos h0]
    refine join_snoc _ _ _ (fun h => ?_)
    have := congrArg List.length h
    simp at this
    omega
  · obtain rfl : k = 0 := by omega
    simp [Lib.join]
theorem eTxt_len (F : List Int) (k : Nat) (h : okE F k = true) (h0 : 0 ≤ eLeast F k) : (eTxt F k).length ≤ 66 ∧ 2 ≤ (eTxt F k).length := by
  obtain ⟨⟨h1, h2⟩, _, h3, h4⟩ := (okE_iff F k).1 h
  have ⟨a1, a2⟩ := of_decide_eq_true h3
  have ⟨b1, b2⟩ := of_decide_eq_true h4
  have l1 := Lib.itoa_length_le (eAt F k) (by omega) (by omega)
  have l2 := Lib.itoa_length_le (eWr F k) (by omega) (by omega)
  have l3 := Lib.itoa_length_le (eRi F k) (by omega) (by omega)
  unfold eTxt
  simp only [List.length_append, List.length_cons, List.length_nil]
  omega
theorem eTexts_len (F : List Int) : ∀ n, okEs F n = true → (eTexts F n).length ≤ 67 * n ∧ (0 < n → 0 < (eTexts F n).length) := by
  intro n
  induction n with
  | zero => intro _; exact ⟨Nat.le_refl _, fun h => absurd h (Nat.lt_irrefl _)⟩
  | succ n ih =>
    intro h
    rw [okEs, Bool.and_eq_true] at h
    have i1 := (ih h.1).1
    have ⟨t1, t2⟩ := eTxt_len F n h.2 (least_nn F n h.1).1
    rw [eTexts_take, List.length_append, List.length_append]
    have : (if 0 < n then [(59 : UInt8)] else []).length ≤ 1 := by split <;> simp
    omega
theorem okEs_n (F : List Int) : ∀ n, okEs F n = true → (n : Int) ≤ eLeast F n := by
  intro n
  induction n with
  | zero => intro _; exact Int.le_refl _
  | succ n ih =>
    intro h
    rw [okEs, Bool.and_eq_true] at h
    have := ih h.1
    have h2 := ((okE_iff F n).1 h.2).1
    rw [eLeast]
    omega
theorem okEs_60 (F : List Int) (n : Nat) (h : okEs F n = true) : n ≤ 60 := by
  have := okEs_n F n h
  have := (least_nn F n h).2
  omega
/-- The text of errata. -/
def feB (F : List Int) (n : Nat) : ByteArray := if okEs F n then (if n = 0 then ⟨#[45]⟩ else ⟨(eTexts F n).toArray⟩) else ⟨#[]⟩
theorem eTxt_bytes (F : List Int) (k : Nat) : (⟨(Lib.itoa (eAt F k)).toArray⟩ : ByteArray) ++ ⟨#[58]⟩ ++ ⟨(Lib.itoa (eWr F k)).toArray⟩ ++ ⟨#[62]⟩ ++ ⟨(Lib.itoa (eRi F k)).toArray⟩ = ⟨(eTxt F k).toArray⟩ := by
  unfold eTxt
  simp [bytes_append]
end Go.Proofs.YtmejfkjbdokdaaaDoor
