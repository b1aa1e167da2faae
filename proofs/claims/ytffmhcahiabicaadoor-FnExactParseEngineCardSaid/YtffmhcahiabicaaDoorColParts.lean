/-
  The program's ColumnOf at each kind of argument, and the model's test whether a number fits a width. Conditions: as each contract says.
-/
import Derived.Test.YtffmhcahiabicaaDoorSpecB
namespace Go.Proofs.YtffmhcahiabicaaDoor
set_option maxRecDepth 4000
open Go.RowKit
theorem col_low (n wi : Int) (h : wi < 1) (w : World) : Calls Tryd.prog 63 #[.int .i64 n, .int .i64 wi] w fun e w' => e = .returned (.tuple #[.string ⟨#[]⟩, .bool false]) ∧ w = w' := by
  go_enter Tryd.func63, Tryd.ntmps63
  go_wp2_with (go_at_call 91; refine (wv_low _ h _).mono ?_; rintro e w' ⟨rfl, rfl⟩)
  go_ret2
  exact ⟨rfl, rfl⟩
theorem col_high (n wi : Int) (h : 12 < wi) (w : World) : Calls Tryd.prog 63 #[.int .i64 n, .int .i64 wi] w fun e w' => e = .returned (.tuple #[.string ⟨#[]⟩, .bool false]) ∧ w = w' := by
  go_enter Tryd.func63, Tryd.ntmps63
  go_wp2_with (go_at_call 91; refine (wv_high _ h _).mono ?_; rintro e w' ⟨rfl, rfl⟩)
  go_ret2
  exact ⟨rfl, rfl⟩
theorem col_small (n : Int) (wd : Nat) (h1 : 1 ≤ wd) (h2 : wd ≤ 12) (hn : n < -(tenP wd / 2)) (w : World) : Calls Tryd.prog 63 #[.int .i64 n, .int .i64 wd] w fun e w' => e = .returned (.tuple #[.string ⟨#[]⟩, .bool false]) ∧ w = w' := by
  have ⟨hev, h5⟩ := tenP_even wd h1
  have HE : Hid (tenP wd = 2 * (tenP wd / 2)) := hev
  clear hev
  have hq := tenP_12 wd h2
  have hp := tenP_pos wd
  go_enter Tryd.func63, Tryd.ntmps63
  go_wp2_with (first | (go_at_call 91; refine (wv_yes _ (by omega) (by omega) _).mono ?_; rintro e w' ⟨rfl, rfl⟩) | (go_at_call 99; refine (pow_any _ h2 _).mono ?_; rintro e w' ⟨rfl, rfl⟩))
  go_ret2
  exact ⟨rfl, rfl⟩
theorem col_great (n : Int) (wd : Nat) (h1 : 1 ≤ wd) (h2 : wd ≤ 12) (hn : tenP wd / 2 ≤ n) (w : World) : Calls Tryd.prog 63 #[.int .i64 n, .int .i64 wd] w fun e w' => e = .returned (.tuple #[.string ⟨#[]⟩, .bool false]) ∧ w = w' := by
  have ⟨hev, h5⟩ := tenP_even wd h1
  have HE : Hid (tenP wd = 2 * (tenP wd / 2)) := hev
  clear hev
  have hq := tenP_12 wd h2
  have hp := tenP_pos wd
  go_enter Tryd.func63, Tryd.ntmps63
  go_wp2_with (first | (go_at_call 91; refine (wv_yes _ (by omega) (by omega) _).mono ?_; rintro e w' ⟨rfl, rfl⟩) | (go_at_call 99; refine (pow_any _ h2 _).mono ?_; rintro e w' ⟨rfl, rfl⟩))
  go_ret2
  exact ⟨rfl, rfl⟩
theorem col_yes (n : Int) (wd : Nat) (h1 : 1 ≤ wd) (h2 : wd ≤ 12) (hn : -(tenP wd / 2) ≤ n) (hn2 : n < tenP wd / 2) (w : World) : Calls Tryd.prog 63 #[.int .i64 n, .int .i64 wd] w fun e w' => e = .returned (.tuple #[.string ⟨(showB n wd).toArray⟩, .bool true]) ∧ Below w.heap.size w w' := by
  have ⟨hev, h5⟩ := tenP_even wd h1
  have HE : Hid (tenP wd = 2 * (tenP wd / 2)) := hev
  clear hev
  have hq := tenP_12 wd h2
  have hp := tenP_pos wd
  have hd1 : decide (n < -(tenP wd / 2)) = false := decide_eq_false (by omega)
  have hd2 : decide (tenP wd / 2 ≤ n) = false := decide_eq_false (by omega)
  go_enter Tryd.func63, Tryd.ntmps63
  go_wp2_with (first | (go_at_call 91; refine (wv_yes _ (by omega) (by omega) _).mono ?_; rintro e w' ⟨rfl, rfl⟩) | (go_at_call 99; refine (pow_any _ h2 _).mono ?_; rintro e w' ⟨rfl, rfl⟩) | (go_at_call 100; refine (show_any _ _ (by omega) (by omega) h2 _).mono ?_; rintro e w' ⟨rfl, hb⟩))
  go_ret2
  exact ⟨rfl, hb⟩
theorem sFits_any (n : Int) (wd : Nat) (r : Bool) (h : fits n wd = r) (h1 : 1 ≤ wd) (h2 : wd ≤ 12) (w : World) : Calls Tryd.prog 104 #[.int .i64 n, .int .i64 wd] w fun e w' => e = .returned (.bool r) ∧ w = w' := by
  have ⟨hev, h5⟩ := tenP_even wd h1
  have HE : Hid (tenP wd = 2 * (tenP wd / 2)) := hev
  clear hev
  have hq := tenP_12 wd h2
  have hp := tenP_pos wd
  subst h
  by_cases g1 : -(tenP wd / 2) ≤ n
  · by_cases g2 : n < tenP wd / 2
    · rw [(fits_iff n wd).2 ⟨g1, g2⟩]
      go_enter Tryd.func104, Tryd.ntmps104
      go_wp2_with (go_at_call 109; refine (sTen_any _ h2 _).mono ?_; rintro e w' ⟨rfl, rfl⟩)
      go_ret
      exact ⟨rfl, rfl⟩
    · rw [show fits n wd = false from by rw [← Bool.not_eq_true, fits_iff]; exact fun h => g2 h.2]
      have e2 : decide (n < tenP wd / 2) = false := decide_eq_false g2
      go_enter Tryd.func104, Tryd.ntmps104
      go_wp2_with (go_at_call 109; refine (sTen_any _ h2 _).mono ?_; rintro e w' ⟨rfl, rfl⟩)
      go_ret
      exact ⟨rfl, rfl⟩
  · rw [show fits n wd = false from by rw [← Bool.not_eq_true, fits_iff]; exact fun h => g1 h.1]
    have e2 : decide (-(tenP wd / 2) ≤ n) = false := decide_eq_false g1
    go_enter Tryd.func104, Tryd.ntmps104
    go_wp2_with (go_at_call 109; refine (sTen_any _ h2 _).mono ?_; rintro e w' ⟨rfl, rfl⟩)
    go_ret
    exact ⟨rfl, rfl⟩
end Go.Proofs.YtffmhcahiabicaaDoor
