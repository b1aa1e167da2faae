/-
  Whether numbers are a polynomial or a table, and whether all are 0: the program and the model, with the library's search for a number of which a function tells. Condition: slices that fit in memory.
-/
import Derived.Test.YtgnoclnenhmakaaIn
import Derived.Test.YtgnoclnenhmakaaSl
import Derived.Test.YtgnoclnenhmakaaPolyMath
import Derived.BigQuiet
namespace Go.Proofs.Ytgnoclnenhmakaa
set_option maxRecDepth 4000
open Go.RowKit
/-- A number lies within a limit. -/
def inB (lim x : Int) : Bool := decide (-lim ≤ x ∧ x ≤ lim)
/-- A list has 1 to most numbers, all within a limit. -/
def listOk (most : Nat) (lim : Int) (zs : List Int) : Bool := decide (1 ≤ zs.length) && decide (zs.length ≤ most) && zs.all (inB lim)
def polyOk (zs : List Int) : Bool := listOk 7 100000 zs
def tableOk (zs : List Int) : Bool := listOk 60 1000000000 zs
theorem listOk_iff (most : Nat) (lim : Int) (zs : List Int) : listOk most lim zs = true ↔ 1 ≤ zs.length ∧ zs.length ≤ most ∧ ∀ x ∈ zs, -lim ≤ x ∧ x ≤ lim := by
  simp [listOk, inB, and_assoc]
theorem polyOk_small (zs : List Int) (h : polyOk zs = true) : 1 ≤ zs.length ∧ Small zs := by
  have ⟨a, b, c⟩ := (listOk_iff _ _ _).1 h
  exact ⟨a, b, c⟩
/-- What is left of a list that should be a polynomial. -/
def resL (L : List Int) : List Int := if polyOk L then L else []
theorem resL_len (L : List Int) : (resL L).length ≤ 1048576 := by
  unfold resL
  split
  · rename_i h
    have := (polyOk_small _ h).2.1
    omega
  · simp
theorem within_yes (n lim : Int) (h : inB lim n = true) (h1 : 0 ≤ lim) (h2 : lim ≤ 1000000000) (w : World) : Calls Try.prog 80 #[.int .i64 n, .int .i64 lim] w fun e w' => e = .returned (.bool true) ∧ w = w' := by
  have ⟨a, b⟩ := of_decide_eq_true h
  clear h
  go_enter Try.func80, Try.ntmps80
  go_wp2
  go_ret
  exact ⟨rfl, rfl⟩
theorem within_no (n lim : Int) (h : inB lim n = false) (h1 : 0 ≤ lim) (h2 : lim ≤ 1000000000) (w : World) : Calls Try.prog 80 #[.int .i64 n, .int .i64 lim] w fun e w' => e = .returned (.bool false) ∧ w = w' := by
  have h := of_decide_eq_false h
  by_cases a : n < -lim
  · clear h
    go_enter Try.func80, Try.ntmps80
    go_wp2
    go_ret
    exact ⟨rfl, rfl⟩
  · have b : lim < n := by omega
    have d : decide (n ≤ lim) = false := decide_eq_false (by omega)
    clear h
    go_enter Try.func80, Try.ntmps80
    go_wp2
    go_ret
    exact ⟨rfl, rfl⟩
theorem within_any (n lim : Int) (h1 : 0 ≤ lim) (h2 : lim ≤ 1000000000) (w : World) : Calls Try.prog 80 #[.int .i64 n, .int .i64 lim] w fun e w' => e = .returned (.bool (inB lim n)) ∧ w = w' := by
  cases h : inB lim n
  · exact within_no n lim h h1 h2 w
  · exact within_yes n lim h h1 h2 w
theorem outside_any (x lim : Int) (B : Nat) (h1 : 0 ≤ lim) (h2 : lim ≤ 1000000000) (w : World) (hc : w.cell? ⟨B, 0, none⟩ = some (.int .i64 lim)) : Calls Try.prog 92 #[.int .i64 x, .pointer (some ⟨B, 0, none⟩)] w fun e w' => e = .returned (.bool (!inB lim x)) ∧ w = w' := by
  go_enter Try.func92, Try.ntmps92
  go_wp2_with (go_at_call 80; refine (within_any _ _ h1 h2 _).mono ?_; rintro e w' ⟨rfl, rfl⟩)
  go_ret
  exact ⟨rfl, rfl⟩
/-- What a search answers: a number that is not negative exactly if there is such a number. -/
def Found (r : Bool) (w : World) (e : Ending) (w' : World) : Prop := ∃ i : Int, e = .returned (.int .i64 i) ∧ decide (0 ≤ i) = r ∧ w = w'
theorem any_take (p : Int → Bool) (zs : List Int) (k : Nat) (z : Int) (hz : zs[k]? = some z) (h : (zs.take k).any p = false) (hp : p z = false) : (zs.take (k + 1)).any p = false := by
  rw [List.take_add_one, hz]; simpa [h] using hp
theorem any_at (p : Int → Bool) (zs : List Int) (k : Nat) (z : Int) (hz : zs[k]? = some z) (hp : p z = true) : zs.any p = true := List.any_eq_true.2 ⟨z, List.mem_of_getElem? hz, hp⟩
theorem indexOut (lim : Int) (B : Nat) (h1 : 0 ≤ lim) (h2 : lim ≤ 1000000000) (v : Value) (zs : List Int) (w : World) (lo hi : Nat) (hv : Lies w lo hi v zs) (hc : w.cell? ⟨B, 0, none⟩ = some (.int .i64 lim)) : Calls Try.prog 67 #[v, .func (.func 92) #[] #[.pointer (some ⟨B, 0, none⟩)]] w (Found (zs.any (fun x => !inB lim x)) w) := by
  obtain ⟨a, cap, rfl, hlc, hcm, hnil, hcell⟩ := hv
  unfold maxLen at hcm
  have HC := hidH hcell
  clear hcell hnil
  go_enter Try.func67, Try.ntmps67
  go_wp2
  go_loop [8] (fun i => ∃ k : Nat, k ≤ zs.length ∧ i = .int .i64 k ∧ (zs.take k).any (fun x => !inB lim x) = false) (fun i => zs.length - (intOf i).toNat)
  case atStart => exact ⟨0, Nat.zero_le _, rfl, by simp⟩
  case round =>
    obtain ⟨k, hk, rfl, hn⟩ := hrel
    have HN := hidH hn
    clear hn
    by_cases hlt : k < zs.length
    · obtain ⟨z, hz⟩ := get_lt zs k hlt
      obtain ⟨b, off, rfl, _, _, hcz⟩ := HC.out k z hz
      have HZ := hidH hz
      clear hz
      cases hp : (fun x => !inB lim x) z
      · have HP := hidH hp
        have hcall := outside_any z lim B h1 h2 w hc
        rw [show (!inB lim z) = _ from hp] at hcall
        have HK := hidH hcall
        clear hcall hp
        go_wp2_with (go_at_call 92; refine HK.out.mono ?_; rintro e w' ⟨rfl, rfl⟩)
        go_round
        case rel => exact ⟨k + 1, by omega, by go_num, any_take _ _ _ _ HZ.out HN.out HP.out⟩
        case measure => simp [intOf]; omega
      · have HP := hidH hp
        have hcall := outside_any z lim B h1 h2 w hc
        rw [show (!inB lim z) = _ from hp] at hcall
        have HK := hidH hcall
        clear hcall hp
        go_wp2_with (go_at_call 92; refine HK.out.mono ?_; rintro e w' ⟨rfl, rfl⟩)
        go_ret
        exact ⟨k, rfl, by rw [any_at _ _ _ _ HZ.out HP.out]; exact decide_eq_true (by omega), rfl⟩
    · obtain rfl : k = zs.length := by omega
      go_wp2
      go_ret
      exact ⟨-1, rfl, by have := HN.out; rw [List.take_of_length_le (Nat.le_refl _)] at this; rw [this]; rfl, rfl⟩
theorem containsOut (lim : Int) (B : Nat) (h1 : 0 ≤ lim) (h2 : lim ≤ 1000000000) (v : Value) (zs : List Int) (w : World) (lo hi : Nat) (hv : Lies w lo hi v zs) (hc : w.cell? ⟨B, 0, none⟩ = some (.int .i64 lim)) : Calls Try.prog 89 #[v, .func (.func 92) #[] #[.pointer (some ⟨B, 0, none⟩)]] w fun e w' => e = .returned (.bool (zs.any (fun x => !inB lim x))) ∧ w = w' := by
  have HI := hidH (indexOut lim B h1 h2 v zs w lo hi hv hc)
  clear hv
  go_enter Try.func89, Try.ntmps89
  go_wp2_with (go_at_call 67; refine HI.out.mono ?_; rintro e w' ⟨i, rfl, hr, rfl⟩)
  go_ret
  exact ⟨by rw [← hr]; rfl, rfl⟩
theorem nonZero_any (x : Int) (w : World) : Calls Try.prog 88 #[.int .i64 x] w fun e w' => e = .returned (.bool (x != 0)) ∧ w = w' := by
  go_enter Try.func88, Try.ntmps88
  go_wp2
  go_ret
  exact ⟨rfl, rfl⟩
theorem indexNz (v : Value) (zs : List Int) (w : World) (lo hi : Nat) (hv : Lies w lo hi v zs) : Calls Try.prog 67 #[v, .func (.func 88) #[] #[]] w (Found (zs.any (fun x => x != 0)) w) := by
  obtain ⟨a, cap, rfl, hlc, hcm, hnil, hcell⟩ := hv
  unfold maxLen at hcm
  have HC := hidH hcell
  clear hcell hnil
  go_enter Try.func67, Try.ntmps67
  go_wp2
  go_loop [8] (fun i => ∃ k : Nat, k ≤ zs.length ∧ i = .int .i64 k ∧ (zs.take k).any (fun x => x != 0) = false) (fun i => zs.length - (intOf i).toNat)
  case atStart => exact ⟨0, Nat.zero_le _, rfl, by simp⟩
  case round =>
    obtain ⟨k, hk, rfl, hn⟩ := hrel
    have HN := hidH hn
    clear hn
    by_cases hlt : k < zs.length
    · obtain ⟨z, hz⟩ := get_lt zs k hlt
      obtain ⟨b, off, rfl, _, _, hcz⟩ := HC.out k z hz
      have HZ := hidH hz
      clear hz
      cases hp : (fun x => x != 0) z
      · have HP := hidH hp
        have hcall := nonZero_any z w
        rw [show (z != 0) = _ from hp] at hcall
        have HK := hidH hcall
        clear hcall hp
        go_wp2_with (go_at_call 88; refine HK.out.mono ?_; rintro e w' ⟨rfl, rfl⟩)
        go_round
        case rel => exact ⟨k + 1, by omega, by go_num, any_take _ _ _ _ HZ.out HN.out HP.out⟩
        case measure => simp [intOf]; omega
      · have HP := hidH hp
        have hcall := nonZero_any z w
        rw [show (z != 0) = _ from hp] at hcall
        have HK := hidH hcall
        clear hcall hp
        go_wp2_with (go_at_call 88; refine HK.out.mono ?_; rintro e w' ⟨rfl, rfl⟩)
        go_ret
        exact ⟨k, rfl, by rw [any_at _ _ _ _ HZ.out HP.out]; exact decide_eq_true (by omega), rfl⟩
    · obtain rfl : k = zs.length := by omega
      go_wp2
      go_ret
      exact ⟨-1, rfl, by have := HN.out; rw [List.take_of_length_le (Nat.le_refl _)] at this; rw [this]; rfl, rfl⟩
theorem containsNz (v : Value) (zs : List Int) (w : World) (lo hi : Nat) (hv : Lies w lo hi v zs) : Calls Try.prog 89 #[v, .func (.func 88) #[] #[]] w fun e w' => e = .returned (.bool (zs.any (fun x => x != 0))) ∧ w = w' := by
  have HI := hidH (indexNz v zs w lo hi hv)
  clear hv
  go_enter Try.func89, Try.ntmps89
  go_wp2_with (go_at_call 67; refine HI.out.mono ?_; rintro e w' ⟨i, rfl, hr, rfl⟩)
  go_ret
  exact ⟨by rw [← hr]; rfl, rfl⟩
/-- All numbers are 0. -/
def zeroOk (zs : List Int) : Bool := !zs.any (fun x => x != 0)
theorem allZero_any (v : Value) (zs : List Int) (w : World) (lo hi : Nat) (hv : Lies w lo hi v zs) : Calls Try.prog 56 #[v] w fun e w' => e = .returned (.bool (zeroOk zs)) ∧ w = w' := by
  have HI := hidH (containsNz v zs w lo hi hv)
  clear hv
  go_enter Try.func56, Try.ntmps56
  go_wp2_with (go_at_call 89; refine HI.out.mono ?_; rintro e w' ⟨rfl, rfl⟩)
  go_ret
  exact ⟨rfl, rfl⟩
theorem pAll_any (lim : Int) (zs : List Int) : (!zs.any fun x => !inB lim x) = zs.all (inB lim) := by
  rw [List.not_any_eq_all_not]
  simp
theorem bounded_any (v : Value) (zs : List Int) (most : Nat) (lim : Int) (w : World) (lo hi : Nat) (hv : Lies w lo hi v zs) (h1 : 0 ≤ lim) (h2 : lim ≤ 1000000000) : Calls Try.prog 66 #[v, .int .i64 most, .int .i64 lim] w (Gives (.bool (listOk most lim zs)) w) := by
  have HV := hidH hv
  obtain ⟨a, cap, rfl, hlc, hcm, hnil, hcell⟩ := hv
  unfold maxLen at hcm
  clear hcell hnil
  by_cases g1 : zs.length < 1
  · have e : listOk most lim zs = false := by rw [listOk, decide_eq_false (by omega)]; rfl
    rw [e]
    clear e
    go_enter Try.func66, Try.ntmps66
    go_wp2_with fail
    go_ret
    exact ⟨rfl, (Below.refl _ _).alloc (Nat.le_refl _) _⟩
  · by_cases g2 : most < zs.length
    · have e : listOk most lim zs = false := by rw [listOk, decide_eq_false (show ¬ zs.length ≤ most by omega)]; simp
      rw [e]
      clear e
      go_enter Try.func66, Try.ntmps66
      go_wp2_with fail
      go_ret
      exact ⟨rfl, (Below.refl _ _).alloc (Nat.le_refl _) _⟩
    · have e : listOk most lim zs = !zs.any fun x => !inB lim x := by rw [listOk, decide_eq_true (show 1 ≤ zs.length by omega), decide_eq_true (show zs.length ≤ most by omega), pAll_any]; rfl
      rw [e]
      clear e
      have HK := hidH (containsOut lim w.heap.size h1 h2 _ zs (w.alloc (.cells #[.int .i64 lim] 3)) lo hi (HV.out.below ((Below.refl _ _).alloc (Nat.le_refl _) _)) (by simp))
      go_enter Try.func66, Try.ntmps66
      go_wp2_with fail
      refine HK.out.mono ?_
      rintro e w' ⟨rfl, rfl⟩
      go_wp2_with fail
      go_ret
      exact ⟨rfl, (Below.refl _ _).alloc (Nat.le_refl _) _⟩
theorem polyValid_any (v : Value) (zs : List Int) (w : World) (lo hi : Nat) (hv : Lies w lo hi v zs) : Calls Try.prog 55 #[v] w (Gives (.bool (polyOk zs)) w) := by
  have HK := hidH (bounded_any v zs 7 100000 w lo hi hv (by omega) (by omega))
  clear hv
  go_enter Try.func55, Try.ntmps55
  go_wp2_with (go_at_call 66; refine HK.out.mono ?_; rintro e w' ⟨rfl, hb⟩)
  go_ret
  exact ⟨rfl, hb⟩
theorem sPolyValid_any (v : Value) (zs : List Int) (w : World) (lo hi : Nat) (hv : Lies w lo hi v zs) : Calls Try.prog 62 #[v] w fun e w' => e = .returned (.bool (polyOk zs)) ∧ w = w' := by
  obtain ⟨a, cap, rfl, hlc, hcm, hnil, hcell⟩ := hv
  unfold maxLen at hcm
  have HC := hidH hcell
  clear hcell hnil
  go_enter Try.func62, Try.ntmps62
  go_wp2_with fail
  go_loop [3] (fun i => ∃ k : Nat, k ≤ zs.length ∧ i = .int .i64 k ∧ ∀ x ∈ zs.take k, inB 100000 x = true) (fun i => zs.length - (intOf i).toNat)
  case atStart => exact ⟨0, Nat.zero_le _, rfl, by simp⟩
  case round =>
    obtain ⟨k, hk, rfl, hn⟩ := hrel
    have HN := hidH hn
    clear hn
    by_cases hlt : k < zs.length
    · obtain ⟨z, hz⟩ := get_lt zs k hlt
      obtain ⟨b, off, rfl, _, _, hcz⟩ := HC.out k z hz
      have HZ := hidH hz
      clear hz
      cases hp : inB 100000 z
      · have HP := hidH hp
        clear hp
        go_wp2_with (go_at_call 60; refine (sIn_any _ _ _ false HP.out _).mono ?_; rintro e w' ⟨rfl, rfl⟩)
        go_ret
        refine ⟨?_, rfl⟩
        have : polyOk zs = false := by
          rw [← Bool.not_eq_true]
          intro h
          have := ((listOk_iff _ _ _).1 h).2.2 z (List.mem_of_getElem? HZ.out)
          have h2 := of_decide_eq_false HP.out
          omega
        rw [this]; rfl
      · have HP := hidH hp
        clear hp
        go_wp2_with (go_at_call 60; refine (sIn_any _ _ _ true HP.out _).mono ?_; rintro e w' ⟨rfl, rfl⟩)
        go_round
        case rel => exact ⟨k + 1, by omega, by go_num, fun x hx => by
          rw [List.take_add_one, HZ.out] at hx
          rcases List.mem_append.1 hx with hx | hx
          · exact HN.out x hx
          · rw [show x = z by simpa using hx]; exact HP.out⟩
        case measure => simp [intOf]; omega
    · obtain rfl : k = zs.length := by omega
      have e : polyOk zs = decide ((1 : Int) ≤ zs.length ∧ (zs.length : Int) ≤ 7) := by
        have h := HN.out
        rw [List.take_of_length_le (Nat.le_refl _)] at h
        rw [Bool.eq_iff_iff, polyOk, listOk_iff, decide_eq_true_eq]
        constructor
        · rintro ⟨a, b, _⟩; omega
        · rintro ⟨a, b⟩
          exact ⟨by omega, by omega, fun x hx => of_decide_eq_true (h x hx)⟩
      have HE := hidH e
      clear e
      go_wp2_with (go_at_call 60; refine (sIn_any _ _ _ _ HE.out.symm _).mono ?_; rintro e w' ⟨rfl, rfl⟩)
      go_ret
      exact ⟨rfl, rfl⟩
theorem sPolyValid_gives (v : Value) (zs : List Int) (w : World) (lo hi : Nat) (hv : Lies w lo hi v zs) : Calls Try.prog 62 #[v] w (Gives (.bool (polyOk zs)) w) :=
  (sPolyValid_any v zs w lo hi hv).mono fun _ _ ⟨a, b⟩ => ⟨a, b ▸ Below.refl _ _⟩
theorem tableValid_any (v : Value) (zs : List Int) (w : World) (lo hi : Nat) (hv : Lies w lo hi v zs) : Calls Try.prog 77 #[v] w (Gives (.bool (tableOk zs)) w) := by
  have HK := hidH (bounded_any v zs 60 1000000000 w lo hi hv (by omega) (by omega))
  clear hv
  go_enter Try.func77, Try.ntmps77
  go_wp2_with (go_at_call 66; refine HK.out.mono ?_; rintro e w' ⟨rfl, hb⟩)
  go_ret
  exact ⟨rfl, hb⟩
theorem sTableValid_any (v : Value) (zs : List Int) (w : World) (lo hi : Nat) (hv : Lies w lo hi v zs) : Calls Try.prog 63 #[v] w fun e w' => e = .returned (.bool (tableOk zs)) ∧ w = w' := by
  obtain ⟨a, cap, rfl, hlc, hcm, hnil, hcell⟩ := hv
  unfold maxLen at hcm
  have HC := hidH hcell
  clear hcell hnil
  go_enter Try.func63, Try.ntmps63
  go_wp2_with fail
  go_loop [3] (fun i => ∃ k : Nat, k ≤ zs.length ∧ i = .int .i64 k ∧ ∀ x ∈ zs.take k, inB 1000000000 x = true) (fun i => zs.length - (intOf i).toNat)
  case atStart => exact ⟨0, Nat.zero_le _, rfl, by simp⟩
  case round =>
    obtain ⟨k, hk, rfl, hn⟩ := hrel
    have HN := hidH hn
    clear hn
    by_cases hlt : k < zs.length
    · obtain ⟨z, hz⟩ := get_lt zs k hlt
      obtain ⟨b, off, rfl, _, _, hcz⟩ := HC.out k z hz
      have HZ := hidH hz
      clear hz
      cases hp : inB 1000000000 z
      · have HP := hidH hp
        clear hp
        go_wp2_with (go_at_call 60; refine (sIn_any _ _ _ false HP.out _).mono ?_; rintro e w' ⟨rfl, rfl⟩)
        go_ret
        refine ⟨?_, rfl⟩
        have : tableOk zs = false := by
          rw [← Bool.not_eq_true]
          intro h
          have := ((listOk_iff _ _ _).1 h).2.2 z (List.mem_of_getElem? HZ.out)
          have h2 := of_decide_eq_false HP.out
          omega
        rw [this]; rfl
      · have HP := hidH hp
        clear hp
        go_wp2_with (go_at_call 60; refine (sIn_any _ _ _ true HP.out _).mono ?_; rintro e w' ⟨rfl, rfl⟩)
        go_round
        case rel => exact ⟨k + 1, by omega, by go_num, fun x hx => by
          rw [List.take_add_one, HZ.out] at hx
          rcases List.mem_append.1 hx with hx | hx
          · exact HN.out x hx
          · rw [show x = z by simpa using hx]; exact HP.out⟩
        case measure => simp [intOf]; omega
    · obtain rfl : k = zs.length := by omega
      have e : tableOk zs = decide ((1 : Int) ≤ zs.length ∧ (zs.length : Int) ≤ 60) := by
        have h := HN.out
        rw [List.take_of_length_le (Nat.le_refl _)] at h
        rw [Bool.eq_iff_iff, tableOk, listOk_iff, decide_eq_true_eq]
        constructor
        · rintro ⟨a, b, _⟩; omega
        · rintro ⟨a, b⟩
          exact ⟨by omega, by omega, fun x hx => of_decide_eq_true (h x hx)⟩
      have HE := hidH e
      clear e
      go_wp2_with (go_at_call 60; refine (sIn_any _ _ _ _ HE.out.symm _).mono ?_; rintro e w' ⟨rfl, rfl⟩)
      go_ret
      exact ⟨rfl, rfl⟩
theorem sTableValid_gives (v : Value) (zs : List Int) (w : World) (lo hi : Nat) (hv : Lies w lo hi v zs) : Calls Try.prog 63 #[v] w (Gives (.bool (tableOk zs)) w) :=
  (sTableValid_any v zs w lo hi hv).mono fun _ _ ⟨a, b⟩ => ⟨a, b ▸ Below.refl _ _⟩
end Go.Proofs.Ytgnoclnenhmakaa
