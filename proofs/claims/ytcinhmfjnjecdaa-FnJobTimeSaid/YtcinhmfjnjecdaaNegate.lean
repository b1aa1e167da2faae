/-
  NegateColumn of the program, at a column and at no column. Condition: a string of at most 2 to the power of 63, minus 1, bytes.
  The program's ColumnOf at each kind of argument, and the model's test whether a number fits a width. Conditions: as each contract says.
  ColumnOf of the program and of the model: both return the column that stands for a number, or none. No conditions.
  SignedOf, CastNines, CastElevens and WidenColumn of the program and of the model, at a column and at no column. Condition: a string of at most 2 to the power of 63, minus 1, bytes.
-/
import Derived.Test.YtcinhmfjnjecdaaValues
import Derived.Test.YtcinhmfjnjecdaaSpecA
namespace Go.Proofs.Ytcinhmfjnjecdaa
set_option maxRecDepth 4000
open Go.RowKit
variable (s : ByteArray) (hs : s.size ≤ 9223372036854775807) (w : World)
include hs
end Go.Proofs.Ytcinhmfjnjecdaa
namespace Go.Proofs.Ytcinhmfjnjecdaa
set_option maxRecDepth 4000
open Go.RowKit
theorem col_low (n wi : Int) (h : wi < 1) (w : World) : Calls Try.prog 69 #[.int .i64 n, .int .i64 wi] w fun e w' => e = .returned (.tuple #[.string ⟨#[]⟩, .bool false]) ∧ w = w' := by
  go_enter Try.func69, Try.ntmps69
  go_wp2_with (go_at_call 75; refine (wv_low _ h _).mono ?_; rintro e w' ⟨rfl, rfl⟩)
  go_ret2
  exact ⟨rfl, rfl⟩
theorem col_high (n wi : Int) (h : 12 < wi) (w : World) : Calls Try.prog 69 #[.int .i64 n, .int .i64 wi] w fun e w' => e = .returned (.tuple #[.string ⟨#[]⟩, .bool false]) ∧ w = w' := by
  go_enter Try.func69, Try.ntmps69
  go_wp2_with (go_at_call 75; refine (wv_high _ h _).mono ?_; rintro e w' ⟨rfl, rfl⟩)
  go_ret2
  exact ⟨rfl, rfl⟩
theorem col_small (n : Int) (wd : Nat) (h1 : 1 ≤ wd) (h2 : wd ≤ 12) (hn : n < -(tenP wd / 2)) (w : World) : Calls Try.prog 69 #[.int .i64 n, .int .i64 wd] w fun e w' => e = .returned (.tuple #[.string ⟨#[]⟩, .bool false]) ∧ w = w' := by
  have ⟨hev, h5⟩ := tenP_even wd h1
  have HE : Hid (tenP wd = 2 * (tenP wd / 2)) := hev
  clear hev
  have hq := tenP_12 wd h2
  have hp := tenP_pos wd
  go_enter Try.func69, Try.ntmps69
  go_wp2_with (first | (go_at_call 75; refine (wv_yes _ (by omega) (by omega) _).mono ?_; rintro e w' ⟨rfl, rfl⟩) | (go_at_call 70; refine (pow_any _ h2 _).mono ?_; rintro e w' ⟨rfl, rfl⟩))
  go_ret2
  exact ⟨rfl, rfl⟩
theorem col_great (n : Int) (wd : Nat) (h1 : 1 ≤ wd) (h2 : wd ≤ 12) (hn : tenP wd / 2 ≤ n) (w : World) : Calls Try.prog 69 #[.int .i64 n, .int .i64 wd] w fun e w' => e = .returned (.tuple #[.string ⟨#[]⟩, .bool false]) ∧ w = w' := by
  have ⟨hev, h5⟩ := tenP_even wd h1
  have HE : Hid (tenP wd = 2 * (tenP wd / 2)) := hev
  clear hev
  have hq := tenP_12 wd h2
  have hp := tenP_pos wd
  go_enter Try.func69, Try.ntmps69
  go_wp2_with (first | (go_at_call 75; refine (wv_yes _ (by omega) (by omega) _).mono ?_; rintro e w' ⟨rfl, rfl⟩) | (go_at_call 70; refine (pow_any _ h2 _).mono ?_; rintro e w' ⟨rfl, rfl⟩))
  go_ret2
  exact ⟨rfl, rfl⟩
theorem col_yes (n : Int) (wd : Nat) (h1 : 1 ≤ wd) (h2 : wd ≤ 12) (hn : -(tenP wd / 2) ≤ n) (hn2 : n < tenP wd / 2) (w : World) : Calls Try.prog 69 #[.int .i64 n, .int .i64 wd] w fun e w' => e = .returned (.tuple #[.string ⟨(showB n wd).toArray⟩, .bool true]) ∧ Below w.heap.size w w' := by
  have ⟨hev, h5⟩ := tenP_even wd h1
  have HE : Hid (tenP wd = 2 * (tenP wd / 2)) := hev
  clear hev
  have hq := tenP_12 wd h2
  have hp := tenP_pos wd
  have hd1 : decide (n < -(tenP wd / 2)) = false := decide_eq_false (by omega)
  have hd2 : decide (tenP wd / 2 ≤ n) = false := decide_eq_false (by omega)
  go_enter Try.func69, Try.ntmps69
  go_wp2_with (first | (go_at_call 75; refine (wv_yes _ (by omega) (by omega) _).mono ?_; rintro e w' ⟨rfl, rfl⟩) | (go_at_call 70; refine (pow_any _ h2 _).mono ?_; rintro e w' ⟨rfl, rfl⟩) | (go_at_call 89; refine (show_any _ _ (by omega) (by omega) h2 _).mono ?_; rintro e w' ⟨rfl, hb⟩))
  go_ret2
  exact ⟨rfl, hb⟩
theorem sFits_any (n : Int) (wd : Nat) (r : Bool) (h : fits n wd = r) (h1 : 1 ≤ wd) (h2 : wd ≤ 12) (w : World) : Calls Try.prog 84 #[.int .i64 n, .int .i64 wd] w fun e w' => e = .returned (.bool r) ∧ w = w' := by
  have ⟨hev, h5⟩ := tenP_even wd h1
  have HE : Hid (tenP wd = 2 * (tenP wd / 2)) := hev
  clear hev
  have hq := tenP_12 wd h2
  have hp := tenP_pos wd
  subst h
  by_cases g1 : -(tenP wd / 2) ≤ n
  · by_cases g2 : n < tenP wd / 2
    · rw [(fits_iff n wd).2 ⟨g1, g2⟩]
      go_enter Try.func84, Try.ntmps84
      go_wp2_with (go_at_call 96; refine (sTen_any _ h2 _).mono ?_; rintro e w' ⟨rfl, rfl⟩)
      go_ret
      exact ⟨rfl, rfl⟩
    · rw [show fits n wd = false from by rw [← Bool.not_eq_true, fits_iff]; exact fun h => g2 h.2]
      have e2 : decide (n < tenP wd / 2) = false := decide_eq_false g2
      go_enter Try.func84, Try.ntmps84
      go_wp2_with (go_at_call 96; refine (sTen_any _ h2 _).mono ?_; rintro e w' ⟨rfl, rfl⟩)
      go_ret
      exact ⟨rfl, rfl⟩
  · rw [show fits n wd = false from by rw [← Bool.not_eq_true, fits_iff]; exact fun h => g1 h.1]
    have e2 : decide (-(tenP wd / 2) ≤ n) = false := decide_eq_false g1
    go_enter Try.func84, Try.ntmps84
    go_wp2_with (go_at_call 96; refine (sTen_any _ h2 _).mono ?_; rintro e w' ⟨rfl, rfl⟩)
    go_ret
    exact ⟨rfl, rfl⟩
end Go.Proofs.Ytcinhmfjnjecdaa
namespace Go.Proofs.Ytcinhmfjnjecdaa
set_option maxRecDepth 4000
open Go.RowKit
theorem sCol_bad (n wi : Int) (h : decide (1 ≤ wi ∧ wi ≤ 12) = false) (w : World) : Calls Try.prog 82 #[.int .i64 n, .int .i64 wi] w fun e w' => e = .returned (.tuple #[.string ⟨#[]⟩, .bool false]) ∧ w = w' := by
  have H : Hid (decide (1 ≤ wi ∧ wi ≤ 12) = false) := h
  clear h
  go_enter Try.func82, Try.ntmps82
  go_wp2_with (go_at_call 81; refine (sWidth_any _ false H.out _).mono ?_; rintro e w' ⟨rfl, rfl⟩)
  go_ret2
  exact ⟨rfl, rfl⟩
theorem sCol_no (n : Int) (wd : Nat) (h1 : 1 ≤ wd) (h2 : wd ≤ 12) (h : fits n wd = false) (w : World) : Calls Try.prog 82 #[.int .i64 n, .int .i64 wd] w fun e w' => e = .returned (.tuple #[.string ⟨#[]⟩, .bool false]) ∧ w = w' := by
  have H : Hid (fits n wd = false) := h
  clear h
  go_enter Try.func82, Try.ntmps82
  go_wp2_with (first | (go_at_call 81; refine (sWidth_any _ true (decide_eq_true ⟨by omega, by omega⟩) _).mono ?_; rintro e w' ⟨rfl, rfl⟩) | (go_at_call 84; refine (sFits_any _ _ false H.out h1 h2 _).mono ?_; rintro e w' ⟨rfl, rfl⟩))
  go_ret2
  exact ⟨rfl, rfl⟩
theorem sCol_yes (n : Int) (wd : Nat) (h1 : 1 ≤ wd) (h2 : wd ≤ 12) (h : fits n wd = true) (w : World) : Calls Try.prog 82 #[.int .i64 n, .int .i64 wd] w fun e w' => e = .returned (.tuple #[.string ⟨(showB n wd).toArray⟩, .bool true]) ∧ Below w.heap.size w w' := by
  have H : Hid (fits n wd = true) := h
  clear h
  go_enter Try.func82, Try.ntmps82
  go_wp2_with (first | (go_at_call 81; refine (sWidth_any _ true (decide_eq_true ⟨by omega, by omega⟩) _).mono ?_; rintro e w' ⟨rfl, rfl⟩) | (go_at_call 84; refine (sFits_any _ _ true H.out h1 h2 _).mono ?_; rintro e w' ⟨rfl, rfl⟩) | (go_at_call 95; refine (sShow_any _ _ h2 _).mono ?_; rintro e w' ⟨rfl, hb⟩))
  go_ret2
  exact ⟨rfl, hb⟩
theorem col_no (n : Int) (wd : Nat) (h1 : 1 ≤ wd) (h2 : wd ≤ 12) (h : fits n wd = false) (w : World) : Calls Try.prog 69 #[.int .i64 n, .int .i64 wd] w fun e w' => e = .returned (.tuple #[.string ⟨#[]⟩, .bool false]) ∧ w = w' := by
  by_cases g1 : n < -(tenP wd / 2)
  · exact col_small n wd h1 h2 g1 w
  · by_cases g2 : tenP wd / 2 ≤ n
    · exact col_great n wd h1 h2 g2 w
    · exact absurd ((fits_iff n wd).2 ⟨by omega, by omega⟩) (by rw [h]; decide)
/-- What ColumnOf answers. -/
def colA (n wi : Int) : Value := if decide (1 ≤ wi ∧ wi ≤ 12) && fits n wi.toNat then .tuple #[.string ⟨(showB n wi.toNat).toArray⟩, .bool true] else .tuple #[.string ⟨#[]⟩, .bool false]
theorem colA_yes (n : Int) (wd : Nat) (h1 : 1 ≤ wd) (h2 : wd ≤ 12) (h : fits n wd = true) : colA n wd = .tuple #[.string ⟨(showB n wd).toArray⟩, .bool true] := by
  unfold colA
  rw [if_pos (by rw [Int.toNat_natCast, h, Bool.and_true]; exact decide_eq_true ⟨by omega, by omega⟩), Int.toNat_natCast]
theorem colA_no (n : Int) (wd : Nat) (h : fits n wd = false) : colA n wd = .tuple #[.string ⟨#[]⟩, .bool false] := by
  unfold colA
  rw [if_neg (by rw [Int.toNat_natCast, h, Bool.and_false]; decide)]
theorem colA_bad (n wi : Int) (h : decide (1 ≤ wi ∧ wi ≤ 12) = false) : colA n wi = .tuple #[.string ⟨#[]⟩, .bool false] := by
  unfold colA
  rw [h, Bool.false_and, if_neg (by decide)]
theorem col_any (n wi : Int) (w : World) : Calls Try.prog 69 #[.int .i64 n, .int .i64 wi] w (Gives (colA n wi) w) := by
  by_cases hw : 1 ≤ wi ∧ wi ≤ 12
  · obtain ⟨wd, rfl⟩ : ∃ k : Nat, wi = k := ⟨wi.toNat, by omega⟩
    cases hf : fits n wd
    · rw [colA_no n wd hf]
      exact (col_no n wd (by omega) (by omega) hf w).mono fun _ _ ⟨a, b⟩ => ⟨a, b ▸ Below.refl _ _⟩
    · have ⟨g1, g2⟩ := (fits_iff n wd).1 hf
      rw [colA_yes n wd (by omega) (by omega) hf]
      exact (col_yes n wd (by omega) (by omega) g1 g2 w).mono fun _ _ ⟨a, b⟩ => ⟨a, b⟩
  · rw [colA_bad n wi (decide_eq_false hw)]
    by_cases g : wi < 1
    · exact (col_low n wi g w).mono fun _ _ ⟨a, b⟩ => ⟨a, b ▸ Below.refl _ _⟩
    · exact (col_high n wi (by omega) w).mono fun _ _ ⟨a, b⟩ => ⟨a, b ▸ Below.refl _ _⟩
theorem sCol_any (n wi : Int) (w : World) : Calls Try.prog 82 #[.int .i64 n, .int .i64 wi] w (Gives (colA n wi) w) := by
  by_cases hw : 1 ≤ wi ∧ wi ≤ 12
  · obtain ⟨wd, rfl⟩ : ∃ k : Nat, wi = k := ⟨wi.toNat, by omega⟩
    cases hf : fits n wd
    · rw [colA_no n wd hf]
      exact (sCol_no n wd (by omega) (by omega) hf w).mono fun _ _ ⟨a, b⟩ => ⟨a, b ▸ Below.refl _ _⟩
    · rw [colA_yes n wd (by omega) (by omega) hf]
      exact (sCol_yes n wd (by omega) (by omega) hf w).mono fun _ _ ⟨a, b⟩ => ⟨a, b⟩
  · rw [colA_bad n wi (decide_eq_false hw)]
    exact (sCol_bad n wi (decide_eq_false hw) w).mono fun _ _ ⟨a, b⟩ => ⟨a, b ▸ Below.refl _ _⟩
end Go.Proofs.Ytcinhmfjnjecdaa
namespace Go.Proofs.Ytcinhmfjnjecdaa
set_option maxRecDepth 4000
open Go.RowKit
variable (s : ByteArray) (hs : s.size ≤ 9223372036854775807) (w : World)
include hs
omit hs s w in
/-- The number that a column stands for. -/
def sgnS (s : ByteArray) : Int := if tenP s.size / 2 ≤ valS s then valS s - tenP s.size else valS s
omit hs s w in
/-- What ColumnOf answers has two parts. -/
theorem colA_two (n wi : Int) : ∃ (t : ByteArray) (b : Bool), colA n wi = .tuple #[.string t, .bool b] := by
  unfold colA
  split
  · exact ⟨_, _, rfl⟩
  · exact ⟨_, _, rfl⟩
end Go.Proofs.Ytcinhmfjnjecdaa
