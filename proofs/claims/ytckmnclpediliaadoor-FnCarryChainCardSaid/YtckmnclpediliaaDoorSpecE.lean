/-
  The model's carries in sequence, and how often they follow each other in a sum. Condition: texts of at most 2 to the power of 63, minus 1, bytes.
-/
import Derived.Test.YtckmnclpediliaaDoorSpecD
namespace Go.Proofs.YtckmnclpediliaaDoor
set_option maxRecDepth 4000
open Go.RowKit
/-- The text of digits, as a string. -/
def txtS (T : List Int) : ByteArray := ⟨(txt T).toArray⟩
theorem txtS_size (T : List Int) : (txtS T).size = T.length := by
  show (txt T).toArray.size = _
  rw [List.size_toArray, txt_length]
theorem txtS_dg (T : List Int) (h : digs T) : dgS (txtS T) = T := by
  show dg (txt T).toArray.toList = T
  rw [List.toList_toArray, dg_txt T h]
theorem txtS_ok (T : List Int) (h : digs T) (h1 : 1 ≤ T.length) (h2 : T.length ≤ 12) : ok (txtS T) = true := by
  rw [ok_iff, txtS_size]
  refine ⟨fun c hc => ?_, h1, h2⟩
  have hc' : c ∈ (txt T).toArray.toList := hc
  rw [List.toList_toArray] at hc'
  exact txt_ok T h c hc'
theorem txtS_marks (T : List Int) (h : flags T) : marks (txtS T) = true := by
  rw [marks_iff]
  intro c hc
  have hc' : c ∈ (txt T).toArray.toList := hc
  rw [List.toList_toArray] at hc'
  simp only [txt, List.mem_reverse, List.mem_map] at hc'
  obtain ⟨d, hd, rfl⟩ := hc'
  have := h d hd
  rw [byte_of d (by omega)]
  omega
theorem txtS_of (c : ByteArray) (h : ok c = true) : txtS (dgS c) = c := by
  have ⟨hd, _, _⟩ := (ok_iff c).1 h
  unfold txtS dgS
  rw [txt_dg _ hd]
/-- What holds of the numbers after k times of carries. -/
structure SRounds (n : Nat) (A M : List Int) (k : Nat) (c m : ByteArray) : Prop where
  le : k ≤ n
  low : lowZ k (dgS m)
  flg : flagged c m = true
  size : c.size = n
  fin : (allD (n - k) (dgS c) (dgS m)).1 = (allD n A M).1
  cnt : k + (allD (n - k) (dgS c) (dgS m)).2 = (allD n A M).2
theorem SRounds.next {n : Nat} {A M : List Int} {k : Nat} {c m : ByteArray} (h : SRounds n A M k c m) (hz : num (dgS m) ≠ 0) : k < n ∧ SRounds n A M (k + 1) (txtS (turnD (dgS c) (upD (dgS m)))) (txtS (passD (dgS c) (upD (dgS m)))) := by
  have ⟨hc, hm, hs, hf⟩ := flagged_facts c m h.flg
  have ⟨dc, lc⟩ := dgS_facts c hc
  have ⟨dm, lm⟩ := dgS_facts m hm
  have ⟨_, l1, l2⟩ := (ok_iff c).1 hc
  have hsz := h.size
  have hk : k < n := by
    have := h.le
    by_cases e : k = n
    · have hl := h.low
      exact absurd (lowZ_num (dgS m) (by rw [lm, hs, hsz, ← e]; exact hl)) hz
    · omega
  have ul : (upD (dgS m)).length = n := by rw [upD_length]; omega
  have ud : digs (upD (dgS m)) := upD_digs _ dm
  have tl : (turnD (dgS c) (upD (dgS m))).length = n := by rw [turnD_length _ _ (by omega)]; omega
  have pl : (passD (dgS c) (upD (dgS m))).length = n := by rw [passD_length _ _ (by omega)]; omega
  have td := turnD_digs (dgS c) (upD (dgS m))
  have pf := passD_flags _ _ dc ud
  obtain ⟨f, hf'⟩ : ∃ f, n - k = f + 1 := ⟨n - k - 1, by omega⟩
  have e1 : n - (k + 1) = f := by omega
  have hg := allD_go f (dgS c) (dgS m) hz
  have hfin := h.fin
  have hcnt := h.cnt
  rw [hf', hg] at hfin hcnt
  simp only at hfin hcnt
  have et := txtS_dg _ td
  have ep := txtS_dg _ (flags_digs pf)
  refine ⟨hk, ⟨by omega, ?_, ?_, by rw [txtS_size]; exact tl, by rw [e1, et, ep]; exact hfin, by rw [e1, et, ep]; omega⟩⟩
  · rw [ep]
    exact lowZ_pass k _ _ dc (by omega) h.low
  · rw [flagged_iff, txtS_size, txtS_size]
    exact ⟨txtS_ok _ td (by omega) (by omega), by omega, txtS_marks _ pf⟩
set_option maxHeartbeats 800000 in
theorem sAll_no (c m : ByteArray) (hc : c.size ≤ 9223372036854775807) (hm : m.size ≤ 9223372036854775807) (w : World) (h : flagged c m = false) : Calls Tryd.prog 14 #[.string c, .string m] w fun e w' => e = .returned (.tuple #[.string ⟨#[]⟩, .int .i64 0, .bool false]) ∧ Below w.heap.size w w' := by
  have VF := hidH fun w => sFlags_any c m hc hm w
  rw [h] at VF
  clear h
  go_enter Tryd.func14, Tryd.ntmps14
  go_wp2_with fail
  refine (VF.out _).mono ?_; rintro e w1 ⟨rfl, rfl⟩
  go_wp2
  go_ret3
  exact ⟨rfl, Below.refl _ _⟩
set_option maxHeartbeats 1600000 in
theorem sAll_yes (c m : ByteArray) (hc : c.size ≤ 9223372036854775807) (hm : m.size ≤ 9223372036854775807) (w : World) (h : flagged c m = true) : Calls Tryd.prog 14 #[.string c, .string m] w fun e w' => e = .returned (.tuple #[.string ⟨(txt (allD c.size (dgS c) (dgS m)).1).toArray⟩, .int .i64 (allD c.size (dgS c) (dgS m)).2, .bool true]) ∧ Below w.heap.size w w' := by
  have VF := hidH fun w => sFlags_any c m hc hm w
  rw [h] at VF
  have H0 : Hid (SRounds c.size (dgS c) (dgS m) 0 c m) := ⟨Nat.zero_le _, fun j d hj => absurd hj (Nat.not_lt_zero _), h, rfl, rfl, by rw [Nat.sub_zero]; omega⟩
  have ⟨hco, _, _, _⟩ := flagged_facts c m h
  have ⟨_, _, l12⟩ := (ok_iff c).1 hco
  clear h hco
  go_enter Tryd.func14, Tryd.ntmps14
  go_wp2_with fail
  refine (VF.out _).mono ?_; rintro e w1 ⟨rfl, rfl⟩
  go_wp2
  go_loopw [0, 1, 7] (fun x y t wr => ∃ (k : Nat) (c' m' : ByteArray), x = .string c' ∧ y = .string m' ∧ t = .int .i64 k ∧ SRounds c.size (dgS c) (dgS m) k c' m' ∧ Below w.heap.size w wr) (fun _ _ t _ => c.size - (intOf t).toNat)
  case atStart => exact ⟨0, c, m, rfl, rfl, rfl, H0.out, Below.refl _ _⟩
  case round =>
    obtain ⟨k, c', m', rfl, rfl, rfl, hS, hB⟩ := hrel
    have HS := hidH hS
    have HB := hidH hB
    have ⟨hc', hm', hs', hf'⟩ := flagged_facts c' m' hS.flg
    have VL := hidH fun w => l1Value_any m' hm' w
    have ⟨v0, _⟩ := valS_bd m' hm'
    have hk12 : k ≤ 12 := by have := hS.le; omega
    have CO := hidH hc'
    have ⟨_, _, lc'⟩ := (ok_iff c').1 hc'
    clear hS hB hc' hm' hf'
    by_cases hz : num (dgS m') = 0
    · have hv : valS m' = 0 := hz
      have d0 : decide (0 < valS m') = false := decide_eq_false (by omega)
      have hs := allD_stop (c.size - k) (dgS c') (dgS m') hz
      have hf := HS.out.fin
      have hn := HS.out.cnt
      rw [hs] at hf hn
      simp only [Nat.add_zero] at hf hn
      have HF := hidH hf
      have HC := hidH hn
      have HV := hidH hv
      clear hz hs hf hn hv
      go_wp2_with fail
      refine (VL.out _).mono ?_; rintro e w1 ⟨rfl, rfl⟩
      go_wp2
      go_ret3
      exact ⟨by rw [← HF.out, ← HC.out, show (⟨(txt (dgS c')).toArray⟩ : ByteArray) = c' from txtS_of c' CO.out]; rfl, HB.out⟩
    · obtain ⟨hk, hnext⟩ := HS.out.next hz
      have hv : valS m' ≠ 0 := hz
      have hpos : 0 < valS m' := by omega
      have HX := hidH hnext
      have VO := hidH fun w => sOnce_yes c' m' (by omega) (by omega) w HS.out.flg
      have TS : Hid ((⟨(txt (turnD (dgS c') (upD (dgS m')))).toArray⟩ : ByteArray) = txtS (turnD (dgS c') (upD (dgS m')))) := rfl
      clear hz hnext hv
      go_wp2_with fail
      refine (VL.out _).mono ?_; rintro e w1 ⟨rfl, rfl⟩
      go_wp2_with fail
      refine (VO.out _).mono ?_; rintro e w2 ⟨rfl, hb2⟩
      go_wp2
      go_roundw
      case rel => exact ⟨k + 1, _, _, rfl, rfl, by go_num, HX.out, HB.out.trans (hb2.mono HB.out.size)⟩
      case measure => simp [intOf]; omega
set_option maxHeartbeats 800000 in
theorem sTimes_no (a b : ByteArray) (hsa : a.size ≤ 9223372036854775807) (hsb : b.size ≤ 9223372036854775807) (w : World) (h : pair a b = false) : Calls Tryd.prog 6 #[.string a, .string b] w fun e w' => e = .returned (.int .i64 (-1)) ∧ Below w.heap.size w w' := by
  have VT := hidH fun w => sTurn_no a b hsa hsb w h
  clear h
  go_enter Tryd.func6, Tryd.ntmps6
  go_wp2_with fail
  refine (VT.out _).mono ?_; rintro e w1 ⟨rfl, hb1⟩
  go_wp2
  go_ret
  exact ⟨rfl, hb1⟩
theorem turned_flags (a b : ByteArray) (h : pair a b = true) : flagged (txtS (turnD (dgS a) (dgS b))) (txtS (passD (dgS a) (dgS b))) = true ∧ (txtS (turnD (dgS a) (dgS b))).size = a.size ∧ (txtS (passD (dgS a) (dgS b))).size = a.size ∧ dgS (txtS (turnD (dgS a) (dgS b))) = turnD (dgS a) (dgS b) ∧ dgS (txtS (passD (dgS a) (dgS b))) = passD (dgS a) (dgS b) := by
  obtain ⟨ha, hb, hab⟩ := (pair_iff a b).1 h
  have ⟨da, la⟩ := dgS_facts a ha
  have ⟨db, lb⟩ := dgS_facts b hb
  have ⟨_, l1, l2⟩ := (ok_iff a).1 ha
  have tl : (turnD (dgS a) (dgS b)).length = a.size := by rw [turnD_length _ _ (by omega), la]
  have pl : (passD (dgS a) (dgS b)).length = a.size := by rw [passD_length _ _ (by omega), la]
  have td := turnD_digs (dgS a) (dgS b)
  have pf := passD_flags _ _ da db
  refine ⟨?_, by rw [txtS_size, tl], by rw [txtS_size, pl], txtS_dg _ td, txtS_dg _ (flags_digs pf)⟩
  rw [flagged_iff, txtS_size, txtS_size]
  exact ⟨txtS_ok _ td (by omega) (by omega), by omega, txtS_marks _ pf⟩
set_option maxHeartbeats 800000 in
theorem sTimes_yes (a b : ByteArray) (hsa : a.size ≤ 9223372036854775807) (hsb : b.size ≤ 9223372036854775807) (w : World) (h : pair a b = true) : Calls Tryd.prog 6 #[.string a, .string b] w fun e w' => e = .returned (.int .i64 (allD a.size (turnD (dgS a) (dgS b)) (passD (dgS a) (dgS b))).2) ∧ Below w.heap.size w w' := by
  have VT := hidH fun w => sTurn_yes a b hsa hsb w h
  have VW := hidH fun w => sWarn_yes a b hsa hsb w h
  have ⟨hf, s1, s2, d1, d2⟩ := turned_flags a b h
  have VA := hidH fun w => sAll_yes _ _ (by omega) (by omega) w hf
  rw [s1, d1, d2] at VA
  clear h hf s1 s2 d1 d2
  go_enter Tryd.func6, Tryd.ntmps6
  go_wp2_with fail
  refine (VT.out _).mono ?_; rintro e w1 ⟨rfl, hb1⟩
  go_wp2_with fail
  refine (VW.out _).mono ?_; rintro e w2 ⟨rfl, hb2⟩
  go_wp2_with fail
  refine (VA.out _).mono ?_; rintro e w3 ⟨rfl, hb3⟩
  go_wp2
  go_ret
  exact ⟨rfl, hb1.trans ((hb2.trans (hb3.mono hb2.size)).mono hb1.size)⟩
end Go.Proofs.YtckmnclpediliaaDoor
