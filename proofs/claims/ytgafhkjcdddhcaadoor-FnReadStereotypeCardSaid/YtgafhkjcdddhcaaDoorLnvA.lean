/-
  Lines that can be printed: one line, the program. No conditions.
-/
import Derived.Test.YtgafhkjcdddhcaaDoorSs
import Derived.WalkSmall
namespace Go.Proofs.YtgafhkjcdddhcaaDoor
set_option maxRecDepth 4000
open Go.RowKit
/-- A byte that a line may have. -/
def byOk (c : UInt8) : Bool := decide (32 ≤ c.toNat ∧ c.toNat ≤ 126)
/-- A line ends with a space. -/
def endSp (s : ByteArray) : Bool := decide (s.data.toList.getLast? = some 32)
def linOk (s : ByteArray) : Bool := s.data.toList.all byOk && (decide (s.size ≤ 100) && !endSp s)
/-- Lines that can be printed. -/
def linesOk (ls : List ByteArray) : Bool := decide (ls.length ≤ 40) && ls.all linOk
theorem byte_at (s : ByteArray) (k : Nat) (h : k < s.size) : s.data.toList[k]? = some (s[k]) := by
  have h' : k < s.data.toList.length := by simpa using h
  rw [List.getElem?_eq_getElem h']
  rfl
theorem linOk_bad (s : ByteArray) (k : Nat) (h : k < s.size) (hb : s[k].toNat < 32 ∨ 126 < s[k].toNat) : linOk s = false := by
  have : s.data.toList.all byOk = false := by
    cases e : s.data.toList.all byOk
    · rfl
    · have h1 := of_decide_eq_true (List.all_eq_true.1 e _ (List.mem_of_getElem? (byte_at s k h)))
      omega
  rw [linOk, this]; rfl
theorem linOk_all (s : ByteArray) (h : ∀ j (hj : j < s.size), 32 ≤ s[j].toNat ∧ s[j].toNat ≤ 126) : linOk s = (decide (s.size ≤ 100) && !endSp s) := by
  have : s.data.toList.all byOk = true := List.all_eq_true.2 fun c hc => by
    obtain ⟨j, hj⟩ := List.getElem?_of_mem hc
    have hjl : j < s.size := by have := (List.getElem?_eq_some_iff.1 hj).1; simpa using this
    rw [byte_at s j hjl] at hj
    injection hj with hj
    subst hj
    exact decide_eq_true (h j hjl)
  rw [linOk, this]; rfl
theorem end_at (s : ByteArray) (h : 0 < s.size) : endSp s = decide (s[s.size - 1] = 32) := by
  unfold endSp
  have e : s.data.toList.getLast? = some (s[s.size - 1]) := by
    rw [List.getLast?_eq_getElem?]
    have : s.data.toList.length - 1 = s.size - 1 := by simp
    rw [this]
    exact byte_at s (s.size - 1) (by omega)
  rw [e]
  by_cases c : s[s.size - 1] = 32
  · rw [decide_eq_true c, c]; rfl
  · rw [decide_eq_false c, decide_eq_false (fun h => c (by injection h))]
theorem end_zero (s : ByteArray) (h : s.size = 0) : endSp s = false := by
  unfold endSp
  have : s.data.toList = [] := List.eq_nil_of_length_eq_zero (by simpa using h)
  rw [this]; rfl
theorem last_text (s : ByteArray) (h : 0 < s.size) : (s.extract (s.size - 1) s.size).toList = [s[s.size - 1]] := by
  have hsz : s.data.size = s.size := rfl
  rw [Lib.toList_data, ByteArray.data_extract]
  apply List.ext_getElem
  · simp; omega
  · intro i h1 h2
    obtain rfl : i = 0 := by simpa using h2
    simp
    rfl
theorem hasSp_any (s : ByteArray) (w : World) (hs : s.size ≤ 9223372036854775807) : Calls Tryd.prog 102 #[.string s, .string ⟨#[32]⟩] w fun e w' => e = .returned (.bool (endSp s)) ∧ w' = w := by
  by_cases h0 : s.size = 0
  · have HE := hidH (end_zero s h0)
    go_enter Tryd.func102, Tryd.ntmps102
    go_wp2_with fail
    go_ret
    exact ⟨by rw [HE.out]; rfl, rfl⟩
  · have hp : 0 < s.size := by omega
    have HE := hidH (end_at s hp)
    have HL := hidH (last_text s hp)
    by_cases hc : s[s.size - 1] = 32
    · have ht : ((s.extract (s.size - 1) s.size).toList == [32]) = true := by rw [HL.out, hc]; decide
      have HE2 := hidH (show endSp s = true by rw [HE.out]; exact decide_eq_true hc)
      clear hc
      go_enter Tryd.func102, Tryd.ntmps102
      go_wp2_with fail
      go_ret
      exact ⟨by rw [HE2.out]; rfl, rfl⟩
    · have ht : ((s.extract (s.size - 1) s.size).toList == [32]) = false := by
        rw [HL.out]
        exact beq_eq_false_iff_ne.2 (fun e => hc (by have : [s[s.size - 1]] = [(32 : UInt8)] := e; injection this))
      have HE2 := hidH (show endSp s = false by rw [HE.out]; exact decide_eq_false hc)
      clear hc
      go_enter Tryd.func102, Tryd.ntmps102
      go_wp2_with fail
      go_ret
      exact ⟨by rw [HE2.out]; rfl, rfl⟩
theorem hasSuffix_any (s : ByteArray) (w : World) (hs : s.size ≤ 9223372036854775807) : Calls Tryd.prog 77 #[.string s, .string ⟨#[32]⟩] w fun e w' => e = .returned (.bool (endSp s)) ∧ w' = w := by
  have HS := hidH (fun W => hasSp_any s W hs)
  go_enter Tryd.func77, Tryd.ntmps77
  go_wp2_with fail
  refine (HS.out _).mono ?_; rintro e w1 ⟨rfl, rfl⟩
  go_wp2_with fail
  go_ret
  exact ⟨rfl, rfl⟩
set_option maxHeartbeats 800000 in
theorem lineValid_any (s : ByteArray) (w : World) (hs : s.size ≤ 9223372036854775807) : Calls Tryd.prog 56 #[.string s] w fun e w' => e = .returned (.bool (linOk s)) ∧ w' = w := by
  have HS := hidH (fun W => hasSuffix_any s W hs)
  go_enter Tryd.func56, Tryd.ntmps56
  go_wp2_with fail
  go_loopw [6] (fun i wr => ∃ k : Nat, k ≤ s.size ∧ i = .int .i64 k ∧ (∀ j (hj : j < s.size), j < k → 32 ≤ s[j].toNat ∧ s[j].toNat ≤ 126) ∧ w = wr) (fun i _ => s.size - (intOf i).toNat)
  case atStart => exact ⟨0, Nat.zero_le _, rfl, (fun _ _ h => absurd h (Nat.not_lt_zero _)), rfl⟩
  case round =>
    obtain ⟨k, hk, rfl, hok, rfl⟩ := hrel
    have HOK := hidH hok
    clear hok
    by_cases hlt : k < s.size
    · by_cases h1 : s[k].toNat < 32
      · have HF := hidH (linOk_bad s k hlt (.inl h1))
        go_wp2_with fail
        go_ret
        exact ⟨by rw [HF.out]; rfl, rfl⟩
      · by_cases h2 : 126 < s[k].toNat
        · have HF := hidH (linOk_bad s k hlt (.inr h2))
          go_wp2_with fail
          go_ret
          exact ⟨by rw [HF.out]; rfl, rfl⟩
        · have HB := hidH (show 32 ≤ s[k].toNat ∧ s[k].toNat ≤ 126 by omega)
          go_wp2_with fail
          go_roundw
          case rel =>
            refine ⟨k + 1, by omega, by go_num, fun j hj hjk => ?_, by first | rfl | trivial⟩
            by_cases e : j = k
            · subst e; exact HB.out
            · exact HOK.out j hj (by omega)
          case measure => simp [intOf]; omega
    · obtain rfl : k = s.size := by omega
      have HE := hidH (linOk_all s (fun j hj => HOK.out j hj hj))
      by_cases h100 : s.size ≤ 100
      · have HE2 := hidH (show linOk s = !endSp s by rw [HE.out, decide_eq_true h100, Bool.true_and])
        go_wp2_with fail
        refine (HS.out _).mono ?_; rintro e w1 ⟨rfl, rfl⟩
        go_wp2_with fail
        go_ret
        exact ⟨by rw [HE2.out]; rfl, rfl⟩
      · have HE2 := hidH (show linOk s = false by rw [HE.out, decide_eq_false h100, Bool.false_and])
        go_wp2_with fail
        go_ret
        exact ⟨by rw [HE2.out]; rfl, rfl⟩
end Go.Proofs.YtgafhkjcdddhcaaDoor
