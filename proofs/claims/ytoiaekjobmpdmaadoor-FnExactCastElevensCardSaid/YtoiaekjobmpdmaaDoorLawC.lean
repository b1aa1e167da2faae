/-
  The walks of seven laws: ColumnValid, ValueOf, SignedOf, WidenColumn, NegateColumn, CastNines and CastElevens answer as their models, at every argument. No conditions but that a text fits in memory.
-/
import Derived.Test.YtoiaekjobmpdmaaDoorSigned
namespace Go.Proofs.YtoiaekjobmpdmaaDoor
open Go.RowKit
theorem exColumnValid (s : ByteArray) (w : World) (hs : s.size ≤ maxLen) : Calls Tryd.prog 3 #[.string s] w (Gives (.bool true) w) := by
  unfold maxLen at hs
  have HS := hidH fun w => sValid_any s hs w
  have HI := hidH fun w => colValid_any s hs w
  by_cases hbig : 1048576 < s.size
  · go_enter Tryd.func3, Tryd.ntmps3
    go_wp2
    go_ret
    exact ⟨rfl, Below.refl _ _⟩
  · generalize ok s = r at *
    go_enter Tryd.func3, Tryd.ntmps3
    go_wp2_with fail
    refine (HS.out _).mono ?_; rintro e w1 ⟨rfl, rfl⟩
    go_wp2_with fail
    refine (HI.out _).mono ?_; rintro e w2 ⟨rfl, hb⟩
    go_wp2
    go_ret
    exact ⟨rfl, hb⟩
theorem sValueY (s : ByteArray) (hs : s.size ≤ 9223372036854775807) (w : World) (h : ok s = true) : Calls Tryd.prog 12 #[.string s] w fun e w' => e = .returned (.int .i64 (valS s)) ∧ Below w.heap.size w w' :=
  (sValue_any s hs w).mono fun _ _ ⟨a, b⟩ => ⟨by rw [a, h]; rfl, b ▸ Below.refl _ _⟩
theorem sValueN (s : ByteArray) (hs : s.size ≤ 9223372036854775807) (w : World) (h : ok s = false) : Calls Tryd.prog 12 #[.string s] w fun e w' => e = .returned (.int .i64 (-1)) ∧ Below w.heap.size w w' :=
  (sValue_any s hs w).mono fun _ _ ⟨a, b⟩ => ⟨by rw [a, h]; rfl, b ▸ Below.refl _ _⟩
theorem valueY (s : ByteArray) (hs : s.size ≤ 9223372036854775807) (w : World) (h : ok s = true) : Calls Tryd.prog 13 #[.string s] w fun e w' => e = .returned (.int .i64 (valS s)) ∧ Below w.heap.size w w' :=
  (value_any s hs w).mono fun _ _ ⟨a, b⟩ => ⟨by rw [a, h]; rfl, b⟩
theorem valueN (s : ByteArray) (hs : s.size ≤ 9223372036854775807) (w : World) (h : ok s = false) : Calls Tryd.prog 13 #[.string s] w fun e w' => e = .returned (.int .i64 (-1)) ∧ Below w.heap.size w w' :=
  (value_any s hs w).mono fun _ _ ⟨a, b⟩ => ⟨by rw [a, h]; rfl, b⟩
theorem sSignedY (s : ByteArray) (hs : s.size ≤ 9223372036854775807) (w : World) (h : ok s = true) : Calls Tryd.prog 14 #[.string s] w fun e w' => e = .returned (.tuple #[.int .i64 (sgnS s), .bool true]) ∧ Below w.heap.size w w' :=
  (sSigned_yes s hs w h).mono fun _ _ ⟨a, b⟩ => ⟨a, b ▸ Below.refl _ _⟩
theorem sSignedN (s : ByteArray) (hs : s.size ≤ 9223372036854775807) (w : World) (h : ok s = false) : Calls Tryd.prog 14 #[.string s] w fun e w' => e = .returned (.tuple #[.int .i64 0, .bool false]) ∧ Below w.heap.size w w' :=
  (sSigned_no s hs w h).mono fun _ _ ⟨a, b⟩ => ⟨a, b ▸ Below.refl _ _⟩
theorem sCastNinesY (s : ByteArray) (hs : s.size ≤ 9223372036854775807) (w : World) (h : ok s = true) : Calls Tryd.prog 20 #[.string s] w fun e w' => e = .returned (.int .i64 (valS s % 9)) ∧ Below w.heap.size w w' :=
  (sCastNines_yes s hs w h).mono fun _ _ ⟨a, b⟩ => ⟨a, b ▸ Below.refl _ _⟩
theorem sCastNinesN (s : ByteArray) (hs : s.size ≤ 9223372036854775807) (w : World) (h : ok s = false) : Calls Tryd.prog 20 #[.string s] w fun e w' => e = .returned (.int .i64 (-1)) ∧ Below w.heap.size w w' :=
  (sCastNines_no s hs w h).mono fun _ _ ⟨a, b⟩ => ⟨a, b ▸ Below.refl _ _⟩
theorem sCastElevensY (s : ByteArray) (hs : s.size ≤ 9223372036854775807) (w : World) (h : ok s = true) : Calls Tryd.prog 22 #[.string s] w fun e w' => e = .returned (.int .i64 (valS s % 11)) ∧ Below w.heap.size w w' :=
  (sCastElevens_yes s hs w h).mono fun _ _ ⟨a, b⟩ => ⟨a, b ▸ Below.refl _ _⟩
theorem sCastElevensN (s : ByteArray) (hs : s.size ≤ 9223372036854775807) (w : World) (h : ok s = false) : Calls Tryd.prog 22 #[.string s] w fun e w' => e = .returned (.int .i64 (-1)) ∧ Below w.heap.size w w' :=
  (sCastElevens_no s hs w h).mono fun _ _ ⟨a, b⟩ => ⟨a, b ▸ Below.refl _ _⟩
theorem exValueOf (s : ByteArray) (w : World) (hs : s.size ≤ maxLen) : Calls Tryd.prog 4 #[.string s] w (Gives (.bool true) w) := by
  unfold maxLen at hs
  by_cases hbig : 1048576 < s.size
  · go_enter Tryd.func4, Tryd.ntmps4
    go_wp2
    go_ret
    exact ⟨rfl, Below.refl _ _⟩
  · cases hk : ok s
    · have HS := hidH fun w => sValueN s hs w hk
      have HI := hidH fun w => valueN s hs w hk
      clear hk
      go_enter Tryd.func4, Tryd.ntmps4
      go_wp2_with fail
      refine (HS.out _).mono ?_; rintro e w1 ⟨rfl, hb1⟩
      go_wp2_with fail
      refine (HI.out _).mono ?_; rintro e w2 ⟨rfl, hb2⟩
      go_wp2
      go_ret
      exact ⟨rfl, hb1.trans (hb2.mono hb1.size)⟩
    · have HS := hidH fun w => sValueY s hs w hk
      have HI := hidH fun w => valueY s hs w hk
      clear hk
      generalize valS s = v at *
      go_enter Tryd.func4, Tryd.ntmps4
      go_wp2_with fail
      refine (HS.out _).mono ?_; rintro e w1 ⟨rfl, hb1⟩
      go_wp2_with fail
      refine (HI.out _).mono ?_; rintro e w2 ⟨rfl, hb2⟩
      go_wp2
      go_ret
      exact ⟨rfl, hb1.trans (hb2.mono hb1.size)⟩
theorem exSignedOf (s : ByteArray) (w : World) (hs : s.size ≤ maxLen) : Calls Tryd.prog 5 #[.string s] w (Gives (.bool true) w) := by
  unfold maxLen at hs
  by_cases hbig : 1048576 < s.size
  · go_enter Tryd.func5, Tryd.ntmps5
    go_wp2
    go_ret
    exact ⟨rfl, Below.refl _ _⟩
  · cases hk : ok s
    · have HS := hidH fun w => sSignedN s hs w hk
      have HI := hidH fun w => signed_no s hs w hk
      clear hk
      go_enter Tryd.func5, Tryd.ntmps5
      go_wp2_with fail
      refine (HS.out _).mono ?_; rintro e w1 ⟨rfl, hb1⟩
      go_wp2_with fail
      refine (HI.out _).mono ?_; rintro e w2 ⟨rfl, hb2⟩
      go_wp2
      go_ret
      exact ⟨rfl, hb1.trans (hb2.mono hb1.size)⟩
    · have HS := hidH fun w => sSignedY s hs w hk
      have HI := hidH fun w => signed_yes s hs w hk
      clear hk
      generalize sgnS s = v at *
      go_enter Tryd.func5, Tryd.ntmps5
      go_wp2_with fail
      refine (HS.out _).mono ?_; rintro e w1 ⟨rfl, hb1⟩
      go_wp2_with fail
      refine (HI.out _).mono ?_; rintro e w2 ⟨rfl, hb2⟩
      go_wp2
      go_ret
      exact ⟨rfl, hb1.trans (hb2.mono hb1.size)⟩
theorem exNegateColumn (s : ByteArray) (w : World) (hs : s.size ≤ maxLen) : Calls Tryd.prog 7 #[.string s] w (Gives (.bool true) w) := by
  unfold maxLen at hs
  by_cases hbig : 1048576 < s.size
  · go_enter Tryd.func7, Tryd.ntmps7
    go_wp2
    go_ret
    exact ⟨rfl, Below.refl _ _⟩
  · cases hk : ok s
    · have HS := hidH fun w => sNegate_no s hs w hk
      have HI := hidH fun w => negate_no s hs w hk
      clear hk
      go_enter Tryd.func7, Tryd.ntmps7
      go_wp2_with fail
      refine (HS.out _).mono ?_; rintro e w1 ⟨rfl, hb1⟩
      go_wp2_with fail
      refine (HI.out _).mono ?_; rintro e w2 ⟨rfl, hb2⟩
      go_wp2
      go_ret
      exact ⟨rfl, hb1.trans (hb2.mono hb1.size)⟩
    · have HS := hidH fun w => sNegate_yes s hs w hk
      have HI := hidH fun w => negate_yes s hs w hk
      clear hk
      generalize (⟨(showB (-valS s) s.size).toArray⟩ : ByteArray) = v at *
      go_enter Tryd.func7, Tryd.ntmps7
      go_wp2_with fail
      refine (HS.out _).mono ?_; rintro e w1 ⟨rfl, hb1⟩
      go_wp2_with fail
      refine (HI.out _).mono ?_; rintro e w2 ⟨rfl, hb2⟩
      go_wp2
      go_ret
      exact ⟨rfl, hb1.trans (hb2.mono hb1.size)⟩
theorem exCastNines (s : ByteArray) (w : World) (hs : s.size ≤ maxLen) : Calls Tryd.prog 8 #[.string s] w (Gives (.bool true) w) := by
  unfold maxLen at hs
  by_cases hbig : 1048576 < s.size
  · go_enter Tryd.func8, Tryd.ntmps8
    go_wp2
    go_ret
    exact ⟨rfl, Below.refl _ _⟩
  · cases hk : ok s
    · have HS := hidH fun w => sCastNinesN s hs w hk
      have HI := hidH fun w => castNines_no s hs w hk
      clear hk
      go_enter Tryd.func8, Tryd.ntmps8
      go_wp2_with fail
      refine (HS.out _).mono ?_; rintro e w1 ⟨rfl, hb1⟩
      go_wp2_with fail
      refine (HI.out _).mono ?_; rintro e w2 ⟨rfl, hb2⟩
      go_wp2
      go_ret
      exact ⟨rfl, hb1.trans (hb2.mono hb1.size)⟩
    · have HS := hidH fun w => sCastNinesY s hs w hk
      have HI := hidH fun w => castNines_yes s hs w hk
      clear hk
      generalize valS s % 9 = v at *
      go_enter Tryd.func8, Tryd.ntmps8
      go_wp2_with fail
      refine (HS.out _).mono ?_; rintro e w1 ⟨rfl, hb1⟩
      go_wp2_with fail
      refine (HI.out _).mono ?_; rintro e w2 ⟨rfl, hb2⟩
      go_wp2
      go_ret
      exact ⟨rfl, hb1.trans (hb2.mono hb1.size)⟩
theorem exCastElevens (s : ByteArray) (w : World) (hs : s.size ≤ maxLen) : Calls Tryd.prog 9 #[.string s] w (Gives (.bool true) w) := by
  unfold maxLen at hs
  by_cases hbig : 1048576 < s.size
  · go_enter Tryd.func9, Tryd.ntmps9
    go_wp2
    go_ret
    exact ⟨rfl, Below.refl _ _⟩
  · cases hk : ok s
    · have HS := hidH fun w => sCastElevensN s hs w hk
      have HI := hidH fun w => castElevens_no s hs w hk
      clear hk
      go_enter Tryd.func9, Tryd.ntmps9
      go_wp2_with fail
      refine (HS.out _).mono ?_; rintro e w1 ⟨rfl, hb1⟩
      go_wp2_with fail
      refine (HI.out _).mono ?_; rintro e w2 ⟨rfl, hb2⟩
      go_wp2
      go_ret
      exact ⟨rfl, hb1.trans (hb2.mono hb1.size)⟩
    · have HS := hidH fun w => sCastElevensY s hs w hk
      have HI := hidH fun w => castElevens_yes s hs w hk
      clear hk
      generalize valS s % 11 = v at *
      go_enter Tryd.func9, Tryd.ntmps9
      go_wp2_with fail
      refine (HS.out _).mono ?_; rintro e w1 ⟨rfl, hb1⟩
      go_wp2_with fail
      refine (HI.out _).mono ?_; rintro e w2 ⟨rfl, hb2⟩
      go_wp2
      go_ret
      exact ⟨rfl, hb1.trans (hb2.mono hb1.size)⟩
theorem exWidenColumn (s : ByteArray) (n : Int) (w : World) (hs : s.size ≤ maxLen) : Calls Tryd.prog 6 #[.string s, .int .i64 n] w (Gives (.bool true) w) := by
  unfold maxLen at hs
  by_cases hbig : 1048576 < s.size
  · go_enter Tryd.func6, Tryd.ntmps6
    go_wp2
    go_ret
    exact ⟨rfl, Below.refl _ _⟩
  · have hex : ∃ (t : ByteArray) (b : Bool), (∀ w, Calls Tryd.prog 16 #[.string s, .int .i64 n] w (Gives (.tuple #[.string t, .bool b]) w)) ∧ ∀ w, Calls Tryd.prog 17 #[.string s, .int .i64 n] w (Gives (.tuple #[.string t, .bool b]) w) := by
      cases hk : ok s
      · exact ⟨_, _, fun w => sWiden_no s hs w n hk, fun w => widen_no s hs w n hk⟩
      · obtain ⟨t, b, e⟩ := colA_two (sgnS s) n
        exact ⟨t, b, fun w => e ▸ sWiden_yes s hs w n hk, fun w => e ▸ widen_yes s hs w n hk⟩
    obtain ⟨t, b, h1, h2⟩ := hex
    have HS := hidH h1
    have HI := hidH h2
    clear h1 h2
    go_enter Tryd.func6, Tryd.ntmps6
    go_wp2_with fail
    refine (HS.out _).mono ?_; rintro e w1 ⟨rfl, hb1⟩
    go_wp2_with fail
    refine (HI.out _).mono ?_; rintro e w2 ⟨rfl, hb2⟩
    go_wp2
    go_ret
    exact ⟨rfl, hb1.trans (hb2.mono hb1.size)⟩
end Go.Proofs.YtoiaekjobmpdmaaDoor
