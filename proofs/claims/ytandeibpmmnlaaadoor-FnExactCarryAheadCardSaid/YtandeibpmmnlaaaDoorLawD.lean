/-
  The walks of eight laws: AddColumns, SubtractColumns, TurnWheels, WarnedWheels, CarryOnce, CarryAll, CarryAhead and CarryTimes answer as their models, at every argument. No conditions but that a text fits in memory.
-/
import Derived.Test.YtandeibpmmnlaaaDoorRowJ
import Derived.Test.YtandeibpmmnlaaaDoorNegate
import Derived.Test.YtandeibpmmnlaaaDoorSpecE
namespace Go.Proofs.YtandeibpmmnlaaaDoor
open Go.RowKit
/-- A call gives a value and changes nothing that was there. -/
def Answers (v : Value) (w : World) (e : Ending) (w' : World) : Prop := e = .returned v ∧ Below w.heap.size w w'
/-- The opposite column, as a string. -/
def oppS (b : ByteArray) : ByteArray := ⟨(showB (-valS b) b.size).toArray⟩
theorem oppS_size (b : ByteArray) : (oppS b).size = b.size := by
  show (showB (-valS b) b.size).toArray.size = _
  rw [List.size_toArray, showB_length]
theorem oppS_ok (b : ByteArray) (h : ok b = true) : ok (oppS b) = true := by
  have ⟨_, h1, h2⟩ := (ok_iff b).1 h
  rw [ok_iff, oppS_size]
  refine ⟨fun c hc => ?_, h1, h2⟩
  have hc' : c ∈ (showB (-valS b) b.size).toArray.toList := hc
  rw [List.toList_toArray] at hc'
  exact showB_ok _ _ c hc'
theorem oppS_val (b : ByteArray) : valS (oppS b) = (-valS b) % tenP b.size := by
  show val (showB (-valS b) b.size).toArray.toList = _
  rw [List.toList_toArray, val_showB]
theorem sub_txt (a b : ByteArray) (h : pair a b = true) : pair a (oppS b) = true ∧ txt (aheadD 0 (turnD (dgS a) (dgS (oppS b))) (passD (dgS a) (dgS (oppS b)))) = showB (valS a - valS b) a.size := by
  obtain ⟨ha, hb, hab⟩ := (pair_iff a b).1 h
  have hp : pair a (oppS b) = true := (pair_iff a _).2 ⟨ha, oppS_ok b hb, by rw [oppS_size]; exact hab⟩
  refine ⟨hp, ?_⟩
  rw [add_txt a _ hp, oppS_val, ← hab, ← showB_mod, Int.add_emod_emod, showB_mod, Int.sub_eq_add_neg]
theorem subC_bad (a b : ByteArray) (hsb : b.size ≤ 9223372036854775807) (w : World) (h : ok b = false) : Calls Tryd.prog 14 #[.string a, .string b] w (Answers (.tuple #[.string ⟨#[]⟩, .bool false]) w) := by
  have HN := hidH fun w => negate_no b hsb w h
  clear h
  go_enter Tryd.func14, Tryd.ntmps14
  go_wp2_with fail
  refine (HN.out _).mono ?_; rintro e w1 ⟨rfl, hb1⟩
  go_wp2
  go_ret2
  exact ⟨rfl, hb1⟩
theorem subC_via (a b : ByteArray) (hsb : b.size ≤ 9223372036854775807) (w : World) (h : ok b = true) (t : ByteArray) (r : Bool) (hA : ∀ w, Calls Tryd.prog 12 #[.string a, .string (oppS b)] w (Answers (.tuple #[.string t, .bool r]) w)) : Calls Tryd.prog 14 #[.string a, .string b] w (Answers (.tuple #[.string t, .bool r]) w) := by
  have HN := hidH fun w => negate_yes b hsb w h
  have HA := hidH hA
  change Hid (∀ w, Calls Tryd.prog 33 #[.string b] w fun e w' => e = .returned (.tuple #[.string (oppS b), .bool true]) ∧ Below w.heap.size w w') at HN
  clear h hA
  generalize oppS b = B at *
  go_enter Tryd.func14, Tryd.ntmps14
  go_wp2_with fail
  refine (HN.out _).mono ?_; rintro e w1 ⟨rfl, hb1⟩
  go_wp2_with fail
  refine (HA.out _).mono ?_; rintro e w2 ⟨rfl, hb2⟩
  go_wp2
  go_ret2
  exact ⟨rfl, hb1.trans (hb2.mono hb1.size)⟩
theorem subC_two (a b : ByteArray) (hsa : a.size ≤ 9223372036854775807) (hsb : b.size ≤ 9223372036854775807) : ∃ (t : ByteArray) (r : Bool), (∀ w, Calls Tryd.prog 13 #[.string a, .string b] w (Answers (.tuple #[.string t, .bool r]) w)) ∧ ∀ w, Calls Tryd.prog 14 #[.string a, .string b] w (Answers (.tuple #[.string t, .bool r]) w) := by
  cases hp : pair a b
  · refine ⟨_, _, fun w => sSub_no a b hsa hsb w hp, fun w => ?_⟩
    cases hb : ok b
    · exact subC_bad a b hsb w hb
    · refine subC_via a b hsb w hb _ _ fun w => addC_no a _ w hsa (by rw [oppS_size]; exact hsb) ?_
      cases hq : pair a (oppS b)
      · rfl
      · obtain ⟨ha, ho, hab⟩ := (pair_iff a _).1 hq
        rw [oppS_size] at hab
        rw [(pair_iff a b).2 ⟨ha, hb, hab⟩] at hp
        cases hp
  · obtain ⟨hq, e⟩ := sub_txt a b hp
    obtain ⟨ha, hb, hab⟩ := (pair_iff a b).1 hp
    exact ⟨_, _, fun w => sSub_yes a b hsa hsb w hp, fun w => subC_via a b hsb w hb _ _ fun w => e ▸ addC_yes a _ w hsa (by rw [oppS_size]; exact hsb) hq⟩
theorem addC_two (a b : ByteArray) (hsa : a.size ≤ 9223372036854775807) (hsb : b.size ≤ 9223372036854775807) : ∃ (t0 : ByteArray) (t1 : Bool), (∀ w, Calls Tryd.prog 11 #[.string a, .string b] w (Answers (.tuple #[.string t0, .bool t1]) w)) ∧ ∀ w, Calls Tryd.prog 12 #[.string a, .string b] w (Answers (.tuple #[.string t0, .bool t1]) w) := by
  cases hp : pair a b
  · exact ⟨_, _, fun w => sAdd_no a b hsa hsb w hp, fun w => addC_no a b w hsa hsb hp⟩
  · exact ⟨_, _, fun w => sAdd_yes a b hsa hsb w hp, fun w => add_txt a b hp ▸ addC_yes a b w hsa hsb hp⟩
theorem turnW_two (a b : ByteArray) (hsa : a.size ≤ 9223372036854775807) (hsb : b.size ≤ 9223372036854775807) : ∃ (t0 : ByteArray) (t1 : Bool), (∀ w, Calls Tryd.prog 15 #[.string a, .string b] w (Answers (.tuple #[.string t0, .bool t1]) w)) ∧ ∀ w, Calls Tryd.prog 16 #[.string a, .string b] w (Answers (.tuple #[.string t0, .bool t1]) w) := by
  cases hp : pair a b
  · exact ⟨_, _, fun w => sTurn_no a b hsa hsb w hp, fun w => turnW_no a b w hsa hsb hp⟩
  · exact ⟨_, _, fun w => sTurn_yes a b hsa hsb w hp, fun w =>  turnW_yes a b w hsa hsb hp⟩
theorem warnW_two (a b : ByteArray) (hsa : a.size ≤ 9223372036854775807) (hsb : b.size ≤ 9223372036854775807) : ∃ (t0 : ByteArray) (t1 : Bool), (∀ w, Calls Tryd.prog 17 #[.string a, .string b] w (Answers (.tuple #[.string t0, .bool t1]) w)) ∧ ∀ w, Calls Tryd.prog 18 #[.string a, .string b] w (Answers (.tuple #[.string t0, .bool t1]) w) := by
  cases hp : pair a b
  · exact ⟨_, _, fun w => sWarn_no a b hsa hsb w hp, fun w => warnW_no a b w hsa hsb hp⟩
  · exact ⟨_, _, fun w => sWarn_yes a b hsa hsb w hp, fun w =>  warnW_yes a b w hsa hsb hp⟩
theorem onceC_two (a b : ByteArray) (hsa : a.size ≤ 9223372036854775807) (hsb : b.size ≤ 9223372036854775807) : ∃ (t0 : ByteArray) (t1 : ByteArray) (t2 : Bool), (∀ w, Calls Tryd.prog 19 #[.string a, .string b] w (Answers (.tuple #[.string t0, .string t1, .bool t2]) w)) ∧ ∀ w, Calls Tryd.prog 20 #[.string a, .string b] w (Answers (.tuple #[.string t0, .string t1, .bool t2]) w) := by
  cases hp : flagged a b
  · exact ⟨_, _, _, fun w => sOnce_no a b hsa hsb w hp, fun w => onceC_no a b w hsa hsb hp⟩
  · exact ⟨_, _, _, fun w => sOnce_yes a b hsa hsb w hp, fun w =>  onceC_yes a b w hsa hsb hp⟩
theorem allC_two (a b : ByteArray) (hsa : a.size ≤ 9223372036854775807) (hsb : b.size ≤ 9223372036854775807) : ∃ (t0 : ByteArray) (t1 : Int) (t2 : Bool), (∀ w, Calls Tryd.prog 21 #[.string a, .string b] w (Answers (.tuple #[.string t0, .int .i64 t1, .bool t2]) w)) ∧ ∀ w, Calls Tryd.prog 22 #[.string a, .string b] w (Answers (.tuple #[.string t0, .int .i64 t1, .bool t2]) w) := by
  cases hp : flagged a b
  · exact ⟨_, _, _, fun w => sAll_no a b hsa hsb w hp, fun w => allC_no a b w hsa hsb hp⟩
  · exact ⟨_, _, _, fun w => sAll_yes a b hsa hsb w hp, fun w =>  allC_yes a b w hsa hsb hp⟩
theorem aheadC_two (a b : ByteArray) (hsa : a.size ≤ 9223372036854775807) (hsb : b.size ≤ 9223372036854775807) : ∃ (t0 : ByteArray) (t1 : Bool), (∀ w, Calls Tryd.prog 23 #[.string a, .string b] w (Answers (.tuple #[.string t0, .bool t1]) w)) ∧ ∀ w, Calls Tryd.prog 24 #[.string a, .string b] w (Answers (.tuple #[.string t0, .bool t1]) w) := by
  cases hp : flagged a b
  · exact ⟨_, _, fun w => sAhead_no a b hsa hsb w hp, fun w => aheadC_no a b w hsa hsb hp⟩
  · exact ⟨_, _, fun w => sAhead_yes a b hsa hsb w hp, fun w => ahead_txt a b hp ▸ aheadC_yes a b w hsa hsb hp⟩
theorem timesC_two (a b : ByteArray) (hsa : a.size ≤ 9223372036854775807) (hsb : b.size ≤ 9223372036854775807) : ∃ (t0 : Int), (∀ w, Calls Tryd.prog 25 #[.string a, .string b] w (Answers (.int .i64 t0) w)) ∧ ∀ w, Calls Tryd.prog 26 #[.string a, .string b] w (Answers (.int .i64 t0) w) := by
  cases hp : pair a b
  · exact ⟨_, fun w => sTimes_no a b hsa hsb w hp, fun w => timesC_no a b w hsa hsb hp⟩
  · exact ⟨_, fun w => sTimes_yes a b hsa hsb w hp, fun w =>  timesC_yes a b w hsa hsb hp⟩
theorem exSubtractColumns (a b : ByteArray) (w : World) (hsa : a.size ≤ maxLen) (hsb : b.size ≤ maxLen) : Calls Tryd.prog 4 #[.string a, .string b] w (Answers (.bool true) w) := by
  unfold maxLen at hsa hsb
  by_cases hbig : 1048576 < a.size
  · go_enter Tryd.func4, Tryd.ntmps4
    go_wp2
    go_ret
    exact ⟨rfl, Below.refl _ _⟩
  · by_cases hbig2 : 1048576 < b.size
    · go_enter Tryd.func4, Tryd.ntmps4
      go_wp2
      go_ret
      exact ⟨rfl, Below.refl _ _⟩
    · obtain ⟨t0, t1, h1, h2⟩ := subC_two a b hsa hsb
      have HS := hidH h1
      have HI := hidH h2
      clear h1 h2
      go_enter Tryd.func4, Tryd.ntmps4
      go_wp2_with fail
      refine (HS.out _).mono ?_; rintro e w1 ⟨rfl, hb1⟩
      go_wp2_with fail
      refine (HI.out _).mono ?_; rintro e w2 ⟨rfl, hb2⟩
      go_wp2
      go_ret
      exact ⟨rfl, hb1.trans (hb2.mono hb1.size)⟩
theorem exAddColumns (a b : ByteArray) (w : World) (hsa : a.size ≤ maxLen) (hsb : b.size ≤ maxLen) : Calls Tryd.prog 3 #[.string a, .string b] w (Answers (.bool true) w) := by
  unfold maxLen at hsa hsb
  by_cases hbig : 1048576 < a.size
  · go_enter Tryd.func3, Tryd.ntmps3
    go_wp2
    go_ret
    exact ⟨rfl, Below.refl _ _⟩
  · by_cases hbig2 : 1048576 < b.size
    · go_enter Tryd.func3, Tryd.ntmps3
      go_wp2
      go_ret
      exact ⟨rfl, Below.refl _ _⟩
    · obtain ⟨t0, t1, h1, h2⟩ := addC_two a b hsa hsb
      have HS := hidH h1
      have HI := hidH h2
      clear h1 h2
      go_enter Tryd.func3, Tryd.ntmps3
      go_wp2_with fail
      refine (HS.out _).mono ?_; rintro e w1 ⟨rfl, hb1⟩
      go_wp2_with fail
      refine (HI.out _).mono ?_; rintro e w2 ⟨rfl, hb2⟩
      go_wp2
      go_ret
      exact ⟨rfl, hb1.trans (hb2.mono hb1.size)⟩
theorem exTurnWheels (a b : ByteArray) (w : World) (hsa : a.size ≤ maxLen) (hsb : b.size ≤ maxLen) : Calls Tryd.prog 5 #[.string a, .string b] w (Answers (.bool true) w) := by
  unfold maxLen at hsa hsb
  by_cases hbig : 1048576 < a.size
  · go_enter Tryd.func5, Tryd.ntmps5
    go_wp2
    go_ret
    exact ⟨rfl, Below.refl _ _⟩
  · by_cases hbig2 : 1048576 < b.size
    · go_enter Tryd.func5, Tryd.ntmps5
      go_wp2
      go_ret
      exact ⟨rfl, Below.refl _ _⟩
    · obtain ⟨t0, t1, h1, h2⟩ := turnW_two a b hsa hsb
      have HS := hidH h1
      have HI := hidH h2
      clear h1 h2
      go_enter Tryd.func5, Tryd.ntmps5
      go_wp2_with fail
      refine (HS.out _).mono ?_; rintro e w1 ⟨rfl, hb1⟩
      go_wp2_with fail
      refine (HI.out _).mono ?_; rintro e w2 ⟨rfl, hb2⟩
      go_wp2
      go_ret
      exact ⟨rfl, hb1.trans (hb2.mono hb1.size)⟩
theorem exWarnedWheels (a b : ByteArray) (w : World) (hsa : a.size ≤ maxLen) (hsb : b.size ≤ maxLen) : Calls Tryd.prog 6 #[.string a, .string b] w (Answers (.bool true) w) := by
  unfold maxLen at hsa hsb
  by_cases hbig : 1048576 < a.size
  · go_enter Tryd.func6, Tryd.ntmps6
    go_wp2
    go_ret
    exact ⟨rfl, Below.refl _ _⟩
  · by_cases hbig2 : 1048576 < b.size
    · go_enter Tryd.func6, Tryd.ntmps6
      go_wp2
      go_ret
      exact ⟨rfl, Below.refl _ _⟩
    · obtain ⟨t0, t1, h1, h2⟩ := warnW_two a b hsa hsb
      have HS := hidH h1
      have HI := hidH h2
      clear h1 h2
      go_enter Tryd.func6, Tryd.ntmps6
      go_wp2_with fail
      refine (HS.out _).mono ?_; rintro e w1 ⟨rfl, hb1⟩
      go_wp2_with fail
      refine (HI.out _).mono ?_; rintro e w2 ⟨rfl, hb2⟩
      go_wp2
      go_ret
      exact ⟨rfl, hb1.trans (hb2.mono hb1.size)⟩
theorem exCarryOnce (a b : ByteArray) (w : World) (hsa : a.size ≤ maxLen) (hsb : b.size ≤ maxLen) : Calls Tryd.prog 7 #[.string a, .string b] w (Answers (.bool true) w) := by
  unfold maxLen at hsa hsb
  by_cases hbig : 1048576 < a.size
  · go_enter Tryd.func7, Tryd.ntmps7
    go_wp2
    go_ret
    exact ⟨rfl, Below.refl _ _⟩
  · by_cases hbig2 : 1048576 < b.size
    · go_enter Tryd.func7, Tryd.ntmps7
      go_wp2
      go_ret
      exact ⟨rfl, Below.refl _ _⟩
    · obtain ⟨t0, t1, t2, h1, h2⟩ := onceC_two a b hsa hsb
      have HS := hidH h1
      have HI := hidH h2
      clear h1 h2
      go_enter Tryd.func7, Tryd.ntmps7
      go_wp2_with fail
      refine (HS.out _).mono ?_; rintro e w1 ⟨rfl, hb1⟩
      go_wp2_with fail
      refine (HI.out _).mono ?_; rintro e w2 ⟨rfl, hb2⟩
      go_wp2
      go_ret
      exact ⟨rfl, hb1.trans (hb2.mono hb1.size)⟩
theorem exCarryAll (a b : ByteArray) (w : World) (hsa : a.size ≤ maxLen) (hsb : b.size ≤ maxLen) : Calls Tryd.prog 8 #[.string a, .string b] w (Answers (.bool true) w) := by
  unfold maxLen at hsa hsb
  by_cases hbig : 1048576 < a.size
  · go_enter Tryd.func8, Tryd.ntmps8
    go_wp2
    go_ret
    exact ⟨rfl, Below.refl _ _⟩
  · by_cases hbig2 : 1048576 < b.size
    · go_enter Tryd.func8, Tryd.ntmps8
      go_wp2
      go_ret
      exact ⟨rfl, Below.refl _ _⟩
    · obtain ⟨t0, t1, t2, h1, h2⟩ := allC_two a b hsa hsb
      have HS := hidH h1
      have HI := hidH h2
      clear h1 h2
      go_enter Tryd.func8, Tryd.ntmps8
      go_wp2_with fail
      refine (HS.out _).mono ?_; rintro e w1 ⟨rfl, hb1⟩
      go_wp2_with fail
      refine (HI.out _).mono ?_; rintro e w2 ⟨rfl, hb2⟩
      go_wp2
      go_ret
      exact ⟨rfl, hb1.trans (hb2.mono hb1.size)⟩
theorem exCarryAhead (a b : ByteArray) (w : World) (hsa : a.size ≤ maxLen) (hsb : b.size ≤ maxLen) : Calls Tryd.prog 9 #[.string a, .string b] w (Answers (.bool true) w) := by
  unfold maxLen at hsa hsb
  by_cases hbig : 1048576 < a.size
  · go_enter Tryd.func9, Tryd.ntmps9
    go_wp2
    go_ret
    exact ⟨rfl, Below.refl _ _⟩
  · by_cases hbig2 : 1048576 < b.size
    · go_enter Tryd.func9, Tryd.ntmps9
      go_wp2
      go_ret
      exact ⟨rfl, Below.refl _ _⟩
    · obtain ⟨t0, t1, h1, h2⟩ := aheadC_two a b hsa hsb
      have HS := hidH h1
      have HI := hidH h2
      clear h1 h2
      go_enter Tryd.func9, Tryd.ntmps9
      go_wp2_with fail
      refine (HS.out _).mono ?_; rintro e w1 ⟨rfl, hb1⟩
      go_wp2_with fail
      refine (HI.out _).mono ?_; rintro e w2 ⟨rfl, hb2⟩
      go_wp2
      go_ret
      exact ⟨rfl, hb1.trans (hb2.mono hb1.size)⟩
theorem exCarryTimes (a b : ByteArray) (w : World) (hsa : a.size ≤ maxLen) (hsb : b.size ≤ maxLen) : Calls Tryd.prog 10 #[.string a, .string b] w (Answers (.bool true) w) := by
  unfold maxLen at hsa hsb
  by_cases hbig : 1048576 < a.size
  · go_enter Tryd.func10, Tryd.ntmps10
    go_wp2
    go_ret
    exact ⟨rfl, Below.refl _ _⟩
  · by_cases hbig2 : 1048576 < b.size
    · go_enter Tryd.func10, Tryd.ntmps10
      go_wp2
      go_ret
      exact ⟨rfl, Below.refl _ _⟩
    · obtain ⟨t0, h1, h2⟩ := timesC_two a b hsa hsb
      have HS := hidH h1
      have HI := hidH h2
      clear h1 h2
      go_enter Tryd.func10, Tryd.ntmps10
      go_wp2_with fail
      refine (HS.out _).mono ?_; rintro e w1 ⟨rfl, hb1⟩
      go_wp2_with fail
      refine (HI.out _).mono ?_; rintro e w2 ⟨rfl, hb2⟩
      go_wp2
      go_ret
      exact ⟨rfl, hb1.trans (hb2.mono hb1.size)⟩
end Go.Proofs.YtandeibpmmnlaaaDoor
