/-
  The model's functions of two columns: pairs, marks, turns without carries. Condition: texts of at most 2 to the power of 63, minus 1, bytes.
-/
import Derived.Test.YtckmnclpediliaaDoorRowH
import Derived.Test.YtckmnclpediliaaDoorSpecB
namespace Go.Proofs.YtckmnclpediliaaDoor
set_option maxRecDepth 4000
open Go.RowKit
theorem sPair_any (a b : ByteArray) (hsa : a.size ≤ 9223372036854775807) (hsb : b.size ≤ 9223372036854775807) (w : World) : Calls Tryd.prog 25 #[.string a, .string b] w fun e w' => e = .returned (.bool (pair a b)) ∧ w = w' := by
  have VA := hidH fun w => sValid_any a hsa w
  have VB := hidH fun w => sValid_any b hsb w
  cases ha : ok a
  · rw [ha] at VA
    have e : pair a b = false := by unfold pair; rw [ha]; rfl
    rw [e]
    clear e ha
    go_enter Tryd.func25, Tryd.ntmps25
    go_wp2_with fail
    refine (VA.out _).mono ?_; rintro e w1 ⟨rfl, rfl⟩
    go_wp2
    go_ret
    exact ⟨rfl, rfl⟩
  · cases hb : ok b
    · rw [ha] at VA
      rw [hb] at VB
      have e : pair a b = false := by unfold pair; rw [ha, hb]; rfl
      rw [e]
      clear e ha hb
      go_enter Tryd.func25, Tryd.ntmps25
      go_wp2_with fail
      refine (VA.out _).mono ?_; rintro e w1 ⟨rfl, rfl⟩
      go_wp2_with fail
      refine (VB.out _).mono ?_; rintro e w1 ⟨rfl, rfl⟩
      go_wp2
      go_ret
      exact ⟨rfl, rfl⟩
    · rw [ha] at VA
      rw [hb] at VB
      have e : pair a b = decide (a.size = b.size) := by unfold pair; rw [ha, hb]; rfl
      rw [e]
      have hq : ((a.size : Int) == (b.size : Int)) = decide (a.size = b.size) := by
        rw [Bool.eq_iff_iff, beq_iff_eq, decide_eq_true_eq]; omega
      generalize decide (a.size = b.size) = r at *
      clear e ha hb
      go_enter Tryd.func25, Tryd.ntmps25
      go_wp2_with fail
      refine (VA.out _).mono ?_; rintro e w1 ⟨rfl, rfl⟩
      go_wp2_with fail
      refine (VB.out _).mono ?_; rintro e w1 ⟨rfl, rfl⟩
      go_wp2
      go_ret
      exact ⟨rfl, rfl⟩
/-- Bytes in a slice of which the last m are still 0. -/
def fwdC (l : List UInt8) (m : Nat) : Array Value := (l.map (fun c => Value.int .u8 c.toNat) ++ List.replicate m (Value.int .u8 0)).toArray
theorem fwdC_start (n : Nat) : byteC n [] = fwdC [] n := by simp [byteC, fwdC]
theorem fwdC_full (l : List UInt8) : fwdC l 0 = byteC 0 l := by simp [byteC, fwdC]
theorem fwdC_at (l : List UInt8) (m : Nat) (j : Nat) (h : j < l.length + m) : ∃ v, (fwdC l m)[j]? = some v := by
  have : j < (fwdC l m).size := by simp [fwdC]; omega
  exact ⟨_, Array.getElem?_eq_getElem this⟩
theorem fwdC_set (l : List UInt8) (m : Nat) (c : UInt8) : (fwdC l (m + 1)).setIfInBounds l.length (.int .u8 c.toNat) = fwdC (l ++ [c]) m := by
  unfold fwdC
  rw [List.setIfInBounds_toArray, List.set_append_right _ _ (by simp), List.length_map, Nat.sub_self, List.replicate_succ, List.set_cons_zero]
  simp
theorem chr_nat (d : Int) (h : 0 ≤ d ∧ d ≤ 9) : ((chr d).toNat : Int) = 48 + d := byte_of d h
theorem sTurn_no (a b : ByteArray) (hsa : a.size ≤ 9223372036854775807) (hsb : b.size ≤ 9223372036854775807) (w : World) (h : pair a b = false) : Calls Tryd.prog 12 #[.string a, .string b] w fun e w' => e = .returned (.tuple #[.string ⟨#[]⟩, .bool false]) ∧ Below w.heap.size w w' := by
  have VP := hidH fun w => sPair_any a b hsa hsb w
  rw [h] at VP
  clear h
  go_enter Tryd.func12, Tryd.ntmps12
  go_wp2_with fail
  refine (VP.out _).mono ?_; rintro e w1 ⟨rfl, rfl⟩
  go_wp2
  go_ret2
  exact ⟨rfl, Below.refl _ _⟩
set_option maxHeartbeats 1600000 in
theorem sTurn_yes (a b : ByteArray) (hsa : a.size ≤ 9223372036854775807) (hsb : b.size ≤ 9223372036854775807) (w : World) (h : pair a b = true) : Calls Tryd.prog 12 #[.string a, .string b] w fun e w' => e = .returned (.tuple #[.string ⟨(txt (turnD (dgS a) (dgS b))).toArray⟩, .bool true]) ∧ Below w.heap.size w w' := by
  have VP := hidH fun w => sPair_any a b hsa hsb w
  rw [h] at VP
  obtain ⟨ha, hb, hab⟩ := (pair_iff a b).1 h
  have ⟨da, l1, l12⟩ := (ok_iff a).1 ha
  have ⟨db, _, _⟩ := (ok_iff b).1 hb
  have DA := hidH da
  have DB := hidH db
  have HZ := hidH (txt_turn a.data.toList b.data.toList (by rw [size_len, size_len, hab]))
  have ZL : Hid ((txt (turnD (dgS a) (dgS b))).length = a.size) := by
    show _ = _
    rw [txt_length, turnD_length _ _ (by rw [dgS, dgS, dg_length, dg_length, size_len, size_len, hab]), dgS, dg_length, size_len]
  have hba : b.size = a.size := hab.symm
  have HBA := hidH hba
  have hmk := run_make_row' (P := Tryd.prog) 22 5 (.int .u8 0) 1 Tryd.underlying22 info5 rfl .i64 .i64 a.size (by omega) (by omega) w
  clear h ha hb hab da db hba
  go_enter Tryd.func12, Tryd.ntmps12
  go_wp2_with fail
  refine (VP.out _).mono ?_; rintro e w1 ⟨rfl, rfl⟩
  go_wp2
  clear hmk
  go_loopw [7] (fun i wr => ∃ k q : Nat, k ≤ a.size ∧ i = .int .i64 k ∧ wr = (w.alloc (.cells (fwdC ((txt (turnD (dgS a) (dgS b))).take k) (a.size - k)) 5)).drewN q) (fun i _ => a.size - (intOf i).toNat)
  case atStart => exact ⟨0, 0, Nat.zero_le _, rfl, by rw [byteC_made, fwdC_start]; rfl⟩
  case round =>
    obtain ⟨k, q, hk, rfl, rfl⟩ := hrel
    by_cases hlt : k < a.size
    · have hltb : k < b.size := by rw [HBA.out]; exact hlt
      have GA := hidH (get_at a k hlt)
      have GB := hidH (get_at b k hltb)
      have ⟨x1, x2⟩ := DA.out _ (List.mem_of_getElem? GA.out)
      have ⟨y1, y2⟩ := DB.out _ (List.mem_of_getElem? GB.out)
      have TK : Hid ((txt (turnD (dgS a) (dgS b))).take (k + 1) = (txt (turnD (dgS a) (dgS b))).take k ++ [chr (((a[k].toNat : Int) - 48 + ((b[k].toNat : Int) - 48)) % 10)]) := by
        have h := HZ.out
        rw [show dg a.data.toList = dgS a from rfl, show dg b.data.toList = dgS b from rfl] at h
        show _ = _
        rw [h]
        exact take_zip _ _ _ k a[k] b[k] GA.out GB.out
      have hl : ((txt (turnD (dgS a) (dgS b))).take k).length = k := by rw [List.length_take, ZL.out]; omega
      obtain ⟨v, hv⟩ := fwdC_at ((txt (turnD (dgS a) (dgS b))).take k) (a.size - k) k (by omega)
      have HLn := hidH hl
      clear hl
      generalize (txt (turnD (dgS a) (dgS b))).take k = zk at *
      have s0 : 0 ≤ (a[k].toNat : Int) - 48 + (b[k].toNat : Int) - 48 := by omega
      go_wp2
      go_region
      go_wp2
      go_roundw
      case rel =>
        refine ⟨k + 1, q + 1, by omega, by go_num, ?_⟩
        rw [setCell_new, TK.out]
        have e1 : a.size - k = (a.size - (k + 1)) + 1 := by omega
        have e2 := fwdC_set zk (a.size - (k + 1)) (chr (((a[k].toNat : Int) - 48 + ((b[k].toNat : Int) - 48)) % 10))
        rw [HLn.out, chr_nat _ (by omega)] at e2
        rw [e1, ← e2]
        have e3 : (a[k].toNat : Int) - 48 + (b[k].toNat : Int) - 48 = (a[k].toNat : Int) - 48 + ((b[k].toNat : Int) - 48) := by omega
        rw [e3]
      case measure => simp [intOf]; omega
    · obtain rfl : k = a.size := by omega
      have hcv := conv_back w q (txt (turnD (dgS a) (dgS b)))
      rw [ZL.out] at hcv
      rw [Nat.sub_self, List.take_of_length_le (by rw [ZL.out]; exact Nat.le_refl _), fwdC_full]
      go_wp2
      go_ret2
      exact ⟨rfl, below_drewN ((Below.refl _ _).alloc (Nat.le_refl _) _) _⟩
theorem sWarn_no (a b : ByteArray) (hsa : a.size ≤ 9223372036854775807) (hsb : b.size ≤ 9223372036854775807) (w : World) (h : pair a b = false) : Calls Tryd.prog 13 #[.string a, .string b] w fun e w' => e = .returned (.tuple #[.string ⟨#[]⟩, .bool false]) ∧ Below w.heap.size w w' := by
  have VP := hidH fun w => sPair_any a b hsa hsb w
  rw [h] at VP
  clear h
  go_enter Tryd.func13, Tryd.ntmps13
  go_wp2_with fail
  refine (VP.out _).mono ?_; rintro e w1 ⟨rfl, rfl⟩
  go_wp2
  go_ret2
  exact ⟨rfl, Below.refl _ _⟩
set_option maxHeartbeats 1600000 in
theorem sWarn_yes (a b : ByteArray) (hsa : a.size ≤ 9223372036854775807) (hsb : b.size ≤ 9223372036854775807) (w : World) (h : pair a b = true) : Calls Tryd.prog 13 #[.string a, .string b] w fun e w' => e = .returned (.tuple #[.string ⟨(txt (passD (dgS a) (dgS b))).toArray⟩, .bool true]) ∧ Below w.heap.size w w' := by
  have VP := hidH fun w => sPair_any a b hsa hsb w
  rw [h] at VP
  obtain ⟨ha, hb, hab⟩ := (pair_iff a b).1 h
  have ⟨da, l1, l12⟩ := (ok_iff a).1 ha
  have ⟨db, _, _⟩ := (ok_iff b).1 hb
  have DA := hidH da
  have DB := hidH db
  have HZ := hidH (txt_pass a.data.toList b.data.toList (by rw [size_len, size_len, hab]))
  have ZL : Hid ((txt (passD (dgS a) (dgS b))).length = a.size) := by
    show _ = _
    rw [txt_length, passD_length _ _ (by rw [dgS, dgS, dg_length, dg_length, size_len, size_len, hab]), dgS, dg_length, size_len]
  have hba : b.size = a.size := hab.symm
  have HBA := hidH hba
  have hmk := run_make_row' (P := Tryd.prog) 22 5 (.int .u8 0) 1 Tryd.underlying22 info5 rfl .i64 .i64 a.size (by omega) (by omega) w
  clear h ha hb hab da db hba
  go_enter Tryd.func13, Tryd.ntmps13
  go_wp2_with fail
  refine (VP.out _).mono ?_; rintro e w1 ⟨rfl, rfl⟩
  go_wp2
  clear hmk
  go_loopw [7] (fun i wr => ∃ k q : Nat, k ≤ a.size ∧ i = .int .i64 k ∧ wr = (w.alloc (.cells (fwdC ((txt (passD (dgS a) (dgS b))).take k) (a.size - k)) 5)).drewN q) (fun i _ => a.size - (intOf i).toNat)
  case atStart => exact ⟨0, 0, Nat.zero_le _, rfl, by rw [byteC_made, fwdC_start]; rfl⟩
  case round =>
    obtain ⟨k, q, hk, rfl, rfl⟩ := hrel
    by_cases hlt : k < a.size
    · have hltb : k < b.size := by rw [HBA.out]; exact hlt
      have GA := hidH (get_at a k hlt)
      have GB := hidH (get_at b k hltb)
      have ⟨x1, x2⟩ := DA.out _ (List.mem_of_getElem? GA.out)
      have ⟨y1, y2⟩ := DB.out _ (List.mem_of_getElem? GB.out)
      have TK : Hid ((txt (passD (dgS a) (dgS b))).take (k + 1) = (txt (passD (dgS a) (dgS b))).take k ++ [chr (((a[k].toNat : Int) - 48 + ((b[k].toNat : Int) - 48)) / 10)]) := by
        have h := HZ.out
        rw [show dg a.data.toList = dgS a from rfl, show dg b.data.toList = dgS b from rfl] at h
        show _ = _
        rw [h]
        exact take_zip _ _ _ k a[k] b[k] GA.out GB.out
      have hl : ((txt (passD (dgS a) (dgS b))).take k).length = k := by rw [List.length_take, ZL.out]; omega
      obtain ⟨v, hv⟩ := fwdC_at ((txt (passD (dgS a) (dgS b))).take k) (a.size - k) k (by omega)
      have HLn := hidH hl
      clear hl
      generalize (txt (passD (dgS a) (dgS b))).take k = zk at *
      have s0 : 0 ≤ (a[k].toNat : Int) - 48 + (b[k].toNat : Int) - 48 := by omega
      go_wp2
      go_region
      go_wp2
      go_roundw
      case rel =>
        refine ⟨k + 1, q + 1, by omega, by go_num, ?_⟩
        rw [setCell_new, TK.out]
        have e1 : a.size - k = (a.size - (k + 1)) + 1 := by omega
        have e2 := fwdC_set zk (a.size - (k + 1)) (chr (((a[k].toNat : Int) - 48 + ((b[k].toNat : Int) - 48)) / 10))
        rw [HLn.out, chr_nat _ (by omega)] at e2
        rw [e1, ← e2]
        have e3 : (a[k].toNat : Int) - 48 + (b[k].toNat : Int) - 48 = (a[k].toNat : Int) - 48 + ((b[k].toNat : Int) - 48) := by omega
        rw [e3]
      case measure => simp [intOf]; omega
    · obtain rfl : k = a.size := by omega
      have hcv := conv_back w q (txt (passD (dgS a) (dgS b)))
      rw [ZL.out] at hcv
      rw [Nat.sub_self, List.take_of_length_le (by rw [ZL.out]; exact Nat.le_refl _), fwdC_full]
      go_wp2
      go_ret2
      exact ⟨rfl, below_drewN ((Below.refl _ _).alloc (Nat.le_refl _) _) _⟩
end Go.Proofs.YtckmnclpediliaaDoor
