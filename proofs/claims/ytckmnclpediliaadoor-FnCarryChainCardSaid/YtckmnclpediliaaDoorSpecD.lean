/-
  The model's marks, moved up, and its sums of columns. Condition: texts of at most 2 to the power of 63, minus 1, bytes.
-/
import Derived.Test.YtckmnclpediliaaDoorSpecC
import Derived.Test.YtckmnclpediliaaDoorValid
namespace Go.Proofs.YtckmnclpediliaaDoor
set_option maxRecDepth 4000
open Go.RowKit
theorem sFlags_any (c m : ByteArray) (hc : c.size ≤ 9223372036854775807) (hm : m.size ≤ 9223372036854775807) (w : World) : Calls Tryd.prog 26 #[.string c, .string m] w fun e w' => e = .returned (.bool (flagged c m)) ∧ w = w' := by
  have VC := hidH fun w => sValid_any c hc w
  go_enter Tryd.func26, Tryd.ntmps26
  go_wp2
  go_loop [5] (fun i => ∃ k : Nat, k ≤ m.size ∧ i = .int .i64 k ∧ ∀ x ∈ m.data.toList.take k, (x.toNat : Int) = 48 ∨ (x.toNat : Int) = 49) (fun i => m.size - (intOf i).toNat)
  case atStart => exact ⟨0, Nat.zero_le _, rfl, by simp⟩
  case round =>
    obtain ⟨k, hk, rfl, hall⟩ := hrel
    have HA := hidH hall
    clear hall
    by_cases hlt : k < m.size
    · have HM := hidH (List.mem_of_getElem? (get_at m k hlt))
      have HT := hidH (take_more m k hlt)
      by_cases c1 : (m[k].toNat : Int) = 48
      · have d1 : ((m[k].toNat : Int) != 48) = false := by rw [c1]; rfl
        have HC := hidH c1
        clear c1
        go_wp2
        go_round
        case rel => exact ⟨k + 1, by omega, by go_num, by
          rw [HT.out]
          intro x hx
          rcases List.mem_append.1 hx with hx | hx
          · exact HA.out x hx
          · rw [List.mem_singleton.1 hx]; exact .inl HC.out⟩
        case measure => simp [intOf]; omega
      · have d1 : ((m[k].toNat : Int) != 48) = true := by rw [bne_iff_ne]; exact c1
        by_cases c2 : (m[k].toNat : Int) = 49
        · have d2 : ((m[k].toNat : Int) != 49) = false := by rw [c2]; rfl
          have HC := hidH c2
          clear c1 c2
          go_wp2
          go_round
          case rel => exact ⟨k + 1, by omega, by go_num, by
            rw [HT.out]
            intro x hx
            rcases List.mem_append.1 hx with hx | hx
            · exact HA.out x hx
            · rw [List.mem_singleton.1 hx]; exact .inr HC.out⟩
          case measure => simp [intOf]; omega
        · have d2 : ((m[k].toNat : Int) != 49) = true := by rw [bne_iff_ne]; exact c2
          have e : flagged c m = false := by
            rw [← Bool.not_eq_true, flagged_iff, marks_iff]
            rintro ⟨_, _, h⟩
            rcases h _ HM.out with h | h
            · exact c1 h
            · exact c2 h
          have HE := hidH e
          clear c1 c2 e
          go_wp2
          go_ret
          exact ⟨by rw [HE.out]; rfl, rfl⟩
    · obtain rfl : k = m.size := by omega
      have hm' : marks m = true := (marks_iff m).2 (by
        have h := HA.out
        rw [List.take_of_length_le (by rw [size_len]; exact Nat.le_refl _)] at h
        exact h)
      cases hok : ok c
      · rw [hok] at VC
        have e : flagged c m = false := by unfold flagged; rw [hok]; rfl
        have HE := hidH e
        clear e hok hm'
        go_wp2_with (go_at_call 35; refine (VC.out _).mono ?_; rintro e w' ⟨rfl, rfl⟩)
        go_ret
        exact ⟨by rw [HE.out]; rfl, rfl⟩
      · rw [hok] at VC
        have e : flagged c m = ((c.size : Int) == (m.size : Int)) := by
          unfold flagged
          rw [hok, hm', Bool.true_and, Bool.and_true, Bool.eq_iff_iff, beq_iff_eq, decide_eq_true_eq]
          omega
        have HE := hidH e
        clear e hok hm'
        go_wp2_with (go_at_call 35; refine (VC.out _).mono ?_; rintro e w' ⟨rfl, rfl⟩)
        go_ret
        exact ⟨by rw [HE.out]; rfl, rfl⟩
/-- Marks moved up, as a text. -/
def upS (m : ByteArray) : ByteArray := ⟨(m.data.toList.drop 1 ++ [48]).toArray⟩
theorem upS_size (m : ByteArray) (h : 1 ≤ m.size) : (upS m).size = m.size := by
  have e : m.data.toList.length = m.size := size_len m
  show (m.data.toList.drop 1 ++ [48]).toArray.size = _
  rw [List.size_toArray, List.length_append, List.length_drop, List.length_singleton]
  omega
theorem upS_dg (m : ByteArray) (h : 1 ≤ m.size) : dgS (upS m) = upD (dgS m) := by
  have e : m.data.toList.length = m.size := size_len m
  unfold dgS upS
  simp only
  cases hl : m.data.toList with
  | nil => rw [hl] at e; simp at e; omega
  | cons x t =>
    have e1 : dg (x :: t) = dg t ++ [(x.toNat : Int) - 48] := by simp [dg]
    rw [e1]
    show dg (t ++ [48]) = _
    rw [dg_snoc, upD, List.length_append, dg_length, List.length_singleton, List.take_succ_cons, List.take_left' (by rw [dg_length])]
    rfl
theorem upS_ok (c m : ByteArray) (h : flagged c m = true) : pair c (upS m) = true ∧ ok (upS m) = true ∧ (upS m).size = c.size := by
  have ⟨hc, hm, hs, _⟩ := flagged_facts c m h
  have ⟨dm, l1, l2⟩ := (ok_iff m).1 hm
  have es := upS_size m l1
  have ho : ok (upS m) = true := by
    rw [ok_iff]
    refine ⟨fun x hx => ?_, by omega, by omega⟩
    have hx' : x ∈ m.data.toList.drop 1 ++ [48] := hx
    rcases List.mem_append.1 hx' with hx | hx
    · exact dm x (List.mem_of_mem_drop hx)
    · rw [List.mem_singleton.1 hx]; decide
  exact ⟨(pair_iff _ _).2 ⟨hc, ho, by omega⟩, ho, by omega⟩
theorem up_eq (m : ByteArray) : m.extract 1 m.size ++ ⟨#[48]⟩ = upS m := by
  apply ByteArray.ext
  rw [ByteArray.data_append, ByteArray.data_extract]
  unfold upS
  apply Array.ext'
  simp
  exact List.take_of_length_le (by rw [List.length_tail, size_len]; exact Nat.le_refl _)
theorem sUp_any (m : ByteArray) (h : 1 ≤ m.size) (h2 : m.size ≤ 12) (w : World) : Calls Tryd.prog 36 #[.string m] w fun e w' => e = .returned (.string (upS m)) ∧ w = w' := by
  go_enter Tryd.func36, Tryd.ntmps36
  go_wp2
  go_ret
  exact ⟨by rw [← up_eq]; rfl, rfl⟩
/-- A sum of what two columns show, as the texts of their digits give it. -/
theorem add_txt (a b : ByteArray) (h : pair a b = true) : txt (aheadD 0 (turnD (dgS a) (dgS b)) (passD (dgS a) (dgS b))) = showB (valS a + valS b) a.size := by
  obtain ⟨ha, hb, hab⟩ := (pair_iff a b).1 h
  have ⟨_, la⟩ := dgS_facts a ha
  have ⟨_, lb⟩ := dgS_facts b hb
  rw [ahead_adds _ _ (by omega), la]
  rfl
theorem ahead_txt (c m : ByteArray) (h : flagged c m = true) : txt (aheadD 0 (dgS c) (dgS m)) = showB (valS c + valS (upS m)) c.size := by
  have ⟨hc, hm, hs, hf⟩ := flagged_facts c m h
  have ⟨_, lc⟩ := dgS_facts c hc
  have ⟨_, lm⟩ := dgS_facts m hm
  have ⟨_, l1, _⟩ := (ok_iff m).1 hm
  rw [ahead_up _ _ (flags_digs hf) (by omega), lc, ← upS_dg m l1]
  rfl
set_option maxHeartbeats 800000 in
theorem sOnce_no (c m : ByteArray) (hc : c.size ≤ 9223372036854775807) (hm : m.size ≤ 9223372036854775807) (w : World) (h : flagged c m = false) : Calls Tryd.prog 28 #[.string c, .string m] w fun e w' => e = .returned (.tuple #[.string ⟨#[]⟩, .string ⟨#[]⟩, .bool false]) ∧ Below w.heap.size w w' := by
  have VF := hidH fun w => sFlags_any c m hc hm w
  rw [h] at VF
  clear h
  go_enter Tryd.func28, Tryd.ntmps28
  go_wp2_with fail
  refine (VF.out _).mono ?_; rintro e w1 ⟨rfl, rfl⟩
  go_wp2
  go_ret3
  exact ⟨rfl, Below.refl _ _⟩
set_option maxHeartbeats 800000 in
theorem sOnce_yes (c m : ByteArray) (hc : c.size ≤ 9223372036854775807) (hm : m.size ≤ 9223372036854775807) (w : World) (h : flagged c m = true) : Calls Tryd.prog 28 #[.string c, .string m] w fun e w' => e = .returned (.tuple #[.string ⟨(txt (turnD (dgS c) (upD (dgS m)))).toArray⟩, .string ⟨(txt (passD (dgS c) (upD (dgS m)))).toArray⟩, .bool true]) ∧ Below w.heap.size w w' := by
  have VF := hidH fun w => sFlags_any c m hc hm w
  rw [h] at VF
  have ⟨_, hmo, _, _⟩ := flagged_facts c m h
  have ⟨_, l1, l2⟩ := (ok_iff m).1 hmo
  have ⟨hp, ho, hs⟩ := upS_ok c m h
  have VT := hidH fun w => sTurn_yes c (upS m) hc (by omega) w hp
  have VW := hidH fun w => sWarn_yes c (upS m) hc (by omega) w hp
  rw [upS_dg m l1] at VT VW
  clear h hmo hp ho hs
  go_enter Tryd.func28, Tryd.ntmps28
  go_wp2_with fail
  refine (VF.out _).mono ?_; rintro e w1 ⟨rfl, rfl⟩
  go_wp2_with fail
  refine (sUp_any m l1 l2 _).mono ?_; rintro e w1 ⟨rfl, rfl⟩
  go_wp2_with fail
  refine (VT.out _).mono ?_; rintro e w1 ⟨rfl, hb1⟩
  go_wp2_with fail
  refine (sUp_any m l1 l2 _).mono ?_; rintro e w2 ⟨rfl, rfl⟩
  go_wp2_with fail
  refine (VW.out _).mono ?_; rintro e w2 ⟨rfl, hb2⟩
  go_wp2
  go_ret3
  exact ⟨rfl, hb1.trans (hb2.mono hb1.size)⟩
end Go.Proofs.YtckmnclpediliaaDoor
