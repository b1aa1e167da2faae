/-
  ColumnValid and ValueOf of the program and of the model: whether a string is a column, and the number that it shows. Condition: a string of at most 2 to the power of 63, minus 1, bytes.
  ColumnValid and ValueOf, apart by whether a string is a column. Condition: a string of at most 2 to the power of 63, minus 1, bytes.
-/
import Derived.Test.YtgafhkjcdddhcaaDoorTrim
import Derived.Test.YtgafhkjcdddhcaaDoorSpecA
namespace Go.Proofs.YtgafhkjcdddhcaaDoor
set_option maxRecDepth 4000
open Go.RowKit
theorem size_len (s : ByteArray) : s.data.toList.length = s.size := by simp
theorem get_at (s : ByteArray) (k : Nat) (h : k < s.size) : s.data.toList[k]? = some s[k] := by
  rw [List.getElem?_eq_getElem (by rw [size_len]; exact h)]; rfl
theorem take_more (s : ByteArray) (k : Nat) (h : k < s.size) : s.data.toList.take (k + 1) = s.data.toList.take k ++ [s[k]] := by
  rw [List.take_add_one, get_at s k h]; rfl
/-- A string is a column. -/
def ok (s : ByteArray) : Bool := colOk s.data.toList
theorem ok_iff (s : ByteArray) : ok s = true ↔ (∀ c ∈ s.data.toList, 48 ≤ (c.toNat : Int) ∧ (c.toNat : Int) ≤ 57) ∧ 1 ≤ s.size ∧ s.size ≤ 12 := by
  rw [ok, colOk_iff, size_len]
theorem colValid_any (s : ByteArray) (hs : s.size ≤ 9223372036854775807) (w : World) : Calls Tryd.prog 69 #[.string s] w fun e w' => e = .returned (.bool (ok s)) ∧ Below w.heap.size w w' := by
  by_cases h1 : s.size < 1
  · have e : ok s = false := by
      rw [← Bool.not_eq_true, ok_iff]; omega
    rw [e]
    clear e
    go_enter Tryd.func69, Tryd.ntmps69
    go_wp2_with (go_at_call 94; refine (wv_low _ (by omega) _).mono ?_; rintro e w' ⟨rfl, rfl⟩)
    go_ret
    exact ⟨rfl, Below.refl _ _⟩
  · by_cases h2 : 12 < s.size
    · have e : ok s = false := by
        rw [← Bool.not_eq_true, ok_iff]; omega
      rw [e]
      clear e
      go_enter Tryd.func69, Tryd.ntmps69
      go_wp2_with (go_at_call 94; refine (wv_high _ (by omega) _).mono ?_; rintro e w' ⟨rfl, rfl⟩)
      go_ret
      exact ⟨rfl, Below.refl _ _⟩
    · have e : ok s = s.data.toList.all isDig := by
        rw [ok, colOk, size_len, decide_eq_true (by omega), decide_eq_true (by omega), Bool.and_true, Bool.and_true]
      rw [e]
      clear e
      have HT := hidH (trimD_any s hs)
      go_enter Tryd.func69, Tryd.ntmps69
      go_wp2_with fail
      refine (wv_yes _ (by omega) (by omega) _).mono ?_
      rintro e w' ⟨rfl, rfl⟩
      go_wp2_with fail
      refine (HT.out _).mono ?_
      rintro e w' ⟨t, rfl, ht, hb⟩
      have HB := hidH hb
      clear hb
      have H2 := hidH ht
      clear ht
      go_wp2
      go_ret
      exact ⟨by rw [← H2.out]; rfl, HB.out⟩
theorem sValid_any (s : ByteArray) (hs : s.size ≤ 9223372036854775807) (w : World) : Calls Tryd.prog 71 #[.string s] w fun e w' => e = .returned (.bool (ok s)) ∧ w = w' := by
  go_enter Tryd.func71, Tryd.ntmps71
  go_wp2
  go_loop [3] (fun i => ∃ k : Nat, k ≤ s.size ∧ i = .int .i64 k ∧ ∀ c ∈ s.data.toList.take k, 48 ≤ (c.toNat : Int) ∧ (c.toNat : Int) ≤ 57) (fun i => s.size - (intOf i).toNat)
  case atStart => exact ⟨0, Nat.zero_le _, rfl, by simp⟩
  case round =>
    obtain ⟨k, hk, rfl, hall⟩ := hrel
    have HA := hidH hall
    clear hall
    by_cases hlt : k < s.size
    · have hm : s[k] ∈ s.data.toList := List.mem_of_getElem? (get_at s k hlt)
      have HM := hidH hm
      have HT := hidH (take_more s k hlt)
      clear hm
      by_cases c1 : (s[k].toNat : Int) < 48
      · have e : ok s = false := by
          rw [← Bool.not_eq_true, ok_iff]; intro h; have := h.1 _ HM.out; omega
        have HE := hidH e
        clear e
        go_wp2
        go_ret
        exact ⟨by rw [HE.out]; rfl, rfl⟩
      · by_cases c2 : 57 < (s[k].toNat : Int)
        · have e : ok s = false := by
            rw [← Bool.not_eq_true, ok_iff]; intro h; have := h.1 _ HM.out; omega
          have HE := hidH e
          clear e
          go_wp2
          go_ret
          exact ⟨by rw [HE.out]; rfl, rfl⟩
        · have d1 : decide ((s[k].toNat : Int) < 48) = false := decide_eq_false c1
          have d2 : decide (57 < (s[k].toNat : Int)) = false := decide_eq_false c2
          go_wp2
          go_round
          case rel => exact ⟨k + 1, by omega, by go_num, by
            rw [HT.out]
            intro c hc
            rcases List.mem_append.1 hc with hc | hc
            · exact HA.out c hc
            · rw [List.mem_singleton.1 hc]; omega⟩
          case measure => simp [intOf]; omega
    · obtain rfl : k = s.size := by omega
      have e : ok s = decide (1 ≤ (s.size : Int) ∧ (s.size : Int) ≤ 12) := by
        have h := HA.out
        rw [List.take_of_length_le (by rw [size_len]; exact Nat.le_refl _)] at h
        rw [Bool.eq_iff_iff, ok_iff, decide_eq_true_eq]
        constructor
        · rintro ⟨_, a, b⟩; omega
        · rintro ⟨a, b⟩; exact ⟨h, by omega, by omega⟩
      have HE := hidH e
      clear e
      go_wp2_with (go_at_call 99; refine (sWidth_any _ _ HE.out.symm _).mono ?_; rintro e w' ⟨rfl, rfl⟩)
      go_ret
      exact ⟨rfl, rfl⟩
/-- The number that a string of digits shows. -/
def valS (s : ByteArray) : Int := val s.data.toList
theorem val_prefix (l : List UInt8) (h : ∀ c ∈ l, 48 ≤ (c.toNat : Int) ∧ (c.toNat : Int) ≤ 57) (hl : l.length ≤ 12) (k : Nat) : 0 ≤ val (l.take k) ∧ val (l.take k) < 1000000000000 := by
  have h2 : ∀ c ∈ l.take k, 48 ≤ (c.toNat : Int) ∧ (c.toNat : Int) ≤ 57 := fun c hc => h c (List.mem_of_mem_take hc)
  have := val_bd _ h2
  have := tenP_12 (l.take k).length (by rw [List.length_take]; omega)
  omega
end Go.Proofs.YtgafhkjcdddhcaaDoor
namespace Go.Proofs.YtgafhkjcdddhcaaDoor
set_option maxRecDepth 4000
open Go.RowKit
variable (s : ByteArray) (hs : s.size ≤ 9223372036854775807) (w : World)
include hs
theorem valid_yes (h : ok s = true) : Calls Tryd.prog 69 #[.string s] w fun e w' => e = .returned (.bool true) ∧ Below w.heap.size w w' := h ▸ colValid_any s hs w
theorem valid_no (h : ok s = false) : Calls Tryd.prog 69 #[.string s] w fun e w' => e = .returned (.bool false) ∧ Below w.heap.size w w' := h ▸ colValid_any s hs w
theorem sValid_yes (h : ok s = true) : Calls Tryd.prog 71 #[.string s] w fun e w' => e = .returned (.bool true) ∧ w = w' := h ▸ sValid_any s hs w
theorem sValid_no (h : ok s = false) : Calls Tryd.prog 71 #[.string s] w fun e w' => e = .returned (.bool false) ∧ w = w' := h ▸ sValid_any s hs w
omit hs in
theorem valS_bd (h : ok s = true) : 0 ≤ valS s ∧ valS s < tenP s.size ∧ 1 ≤ s.size ∧ s.size ≤ 12 ∧ tenP s.size ≤ 1000000000000 := by
  have ⟨hd, h1, h2⟩ := (ok_iff s).1 h
  have hb := val_bd _ hd
  rw [size_len] at hb
  exact ⟨hb.1, hb.2, h1, h2, tenP_12 _ h2⟩
end Go.Proofs.YtgafhkjcdddhcaaDoor
