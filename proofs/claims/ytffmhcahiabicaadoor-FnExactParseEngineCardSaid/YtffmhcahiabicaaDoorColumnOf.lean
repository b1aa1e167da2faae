/-
  ColumnOf of the program and of the model: both return the column that stands for a number, or none. No conditions.
-/
import Derived.Test.YtffmhcahiabicaaDoorColParts
namespace Go.Proofs.YtffmhcahiabicaaDoor
set_option maxRecDepth 4000
open Go.RowKit
theorem sCol_bad (n wi : Int) (h : decide (1 ≤ wi ∧ wi ≤ 12) = false) (w : World) : Calls Tryd.prog 66 #[.int .i64 n, .int .i64 wi] w fun e w' => e = .returned (.tuple #[.string ⟨#[]⟩, .bool false]) ∧ w = w' := by
  have H : Hid (decide (1 ≤ wi ∧ wi ≤ 12) = false) := h
  clear h
  go_enter Tryd.func66, Tryd.ntmps66
  go_wp2_with (go_at_call 65; refine (sWidth_any _ false H.out _).mono ?_; rintro e w' ⟨rfl, rfl⟩)
  go_ret2
  exact ⟨rfl, rfl⟩
theorem sCol_no (n : Int) (wd : Nat) (h1 : 1 ≤ wd) (h2 : wd ≤ 12) (h : fits n wd = false) (w : World) : Calls Tryd.prog 66 #[.int .i64 n, .int .i64 wd] w fun e w' => e = .returned (.tuple #[.string ⟨#[]⟩, .bool false]) ∧ w = w' := by
  have H : Hid (fits n wd = false) := h
  clear h
  go_enter Tryd.func66, Tryd.ntmps66
  go_wp2_with (first | (go_at_call 65; refine (sWidth_any _ true (decide_eq_true ⟨by omega, by omega⟩) _).mono ?_; rintro e w' ⟨rfl, rfl⟩) | (go_at_call 104; refine (sFits_any _ _ false H.out h1 h2 _).mono ?_; rintro e w' ⟨rfl, rfl⟩))
  go_ret2
  exact ⟨rfl, rfl⟩
theorem sCol_yes (n : Int) (wd : Nat) (h1 : 1 ≤ wd) (h2 : wd ≤ 12) (h : fits n wd = true) (w : World) : Calls Tryd.prog 66 #[.int .i64 n, .int .i64 wd] w fun e w' => e = .returned (.tuple #[.string ⟨(showB n wd).toArray⟩, .bool true]) ∧ Below w.heap.size w w' := by
  have H : Hid (fits n wd = true) := h
  clear h
  go_enter Tryd.func66, Tryd.ntmps66
  go_wp2_with (first | (go_at_call 65; refine (sWidth_any _ true (decide_eq_true ⟨by omega, by omega⟩) _).mono ?_; rintro e w' ⟨rfl, rfl⟩) | (go_at_call 104; refine (sFits_any _ _ true H.out h1 h2 _).mono ?_; rintro e w' ⟨rfl, rfl⟩) | (go_at_call 97; refine (sShow_any _ _ h2 _).mono ?_; rintro e w' ⟨rfl, hb⟩))
  go_ret2
  exact ⟨rfl, hb⟩
theorem col_no (n : Int) (wd : Nat) (h1 : 1 ≤ wd) (h2 : wd ≤ 12) (h : fits n wd = false) (w : World) : Calls Tryd.prog 63 #[.int .i64 n, .int .i64 wd] w fun e w' => e = .returned (.tuple #[.string ⟨#[]⟩, .bool false]) ∧ w = w' := by
  by_cases g1 : n < -(tenP wd / 2)
  · exact col_small n wd h1 h2 g1 w
  · by_cases g2 : tenP wd / 2 ≤ n
    · exact col_great n wd h1 h2 g2 w
    · exact absurd ((fits_iff n wd).2 ⟨by omega, by omega⟩) (by rw [h]; decide)
/-- What ColumnOf answers. -/
def colA (n wi : Int) : Value := if decide (1 ≤ wi ∧ wi ≤ 12) && fits n wi.toNat then .tuple #[.string ⟨(showB n wi.toNat).toArray⟩, .bool true] else .tuple #[.string ⟨#[]⟩, .bool false]
theorem colA_yes (n : Int) (wd : Nat) (h1 : 1 ≤ wd) (h2 : wd ≤ 12) (h : fits n wd = true) : colA n wd = .tuple #[.string ⟨(showB n wd).toArray⟩, .bool true] := by
  unfold colA
  rw [if_pos (by rw [Int.toNat_natCast, h, Bool.and_true]; exact decide_eq_true ⟨by omega, by omega⟩), Int.toNat_natCast]
theorem colA_no (n : Int) (wd : Nat) (h : fits n wd = false) : colA n wd = .tuple #[.string ⟨#[]⟩, .bool false] := by
  unfold colA
  rw [if_neg (by rw [Int.toNat_natCast, h, Bool.and_false]; decide)]
theorem colA_bad (n wi : Int) (h : decide (1 ≤ wi ∧ wi ≤ 12) = false) : colA n wi = .tuple #[.string ⟨#[]⟩, .bool false] := by
  unfold colA
  rw [h, Bool.false_and, if_neg (by decide)]
theorem col_any (n wi : Int) (w : World) : Calls Tryd.prog 63 #[.int .i64 n, .int .i64 wi] w (Gives (colA n wi) w) := by
  by_cases hw : 1 ≤ wi ∧ wi ≤ 12
  · obtain ⟨wd, rfl⟩ : ∃ k : Nat, wi = k := ⟨wi.toNat, by omega⟩
    cases hf : fits n wd
    · rw [colA_no n wd hf]
      exact (col_no n wd (by omega) (by omega) hf w).mono fun _ _ ⟨a, b⟩ => ⟨a, b ▸ Below.refl _ _⟩
    · have ⟨g1, g2⟩ := (fits_iff n wd).1 hf
      rw [colA_yes n wd (by omega) (by omega) hf]
      exact (col_yes n wd (by omega) (by omega) g1 g2 w).mono fun _ _ ⟨a, b⟩ => ⟨a, b⟩
  · rw [colA_bad n wi (decide_eq_false hw)]
    by_cases g : wi < 1
    · exact (col_low n wi g w).mono fun _ _ ⟨a, b⟩ => ⟨a, b ▸ Below.refl _ _⟩
    · exact (col_high n wi (by omega) w).mono fun _ _ ⟨a, b⟩ => ⟨a, b ▸ Below.refl _ _⟩
theorem sCol_any (n wi : Int) (w : World) : Calls Tryd.prog 66 #[.int .i64 n, .int .i64 wi] w (Gives (colA n wi) w) := by
  by_cases hw : 1 ≤ wi ∧ wi ≤ 12
  · obtain ⟨wd, rfl⟩ : ∃ k : Nat, wi = k := ⟨wi.toNat, by omega⟩
    cases hf : fits n wd
    · rw [colA_no n wd hf]
      exact (sCol_no n wd (by omega) (by omega) hf w).mono fun _ _ ⟨a, b⟩ => ⟨a, b ▸ Below.refl _ _⟩
    · rw [colA_yes n wd (by omega) (by omega) hf]
      exact (sCol_yes n wd (by omega) (by omega) hf w).mono fun _ _ ⟨a, b⟩ => ⟨a, b⟩
  · rw [colA_bad n wi (decide_eq_false hw)]
    exact (sCol_bad n wi (decide_eq_false hw) w).mono fun _ _ ⟨a, b⟩ => ⟨a, b ▸ Below.refl _ _⟩
end Go.Proofs.YtffmhcahiabicaaDoor
