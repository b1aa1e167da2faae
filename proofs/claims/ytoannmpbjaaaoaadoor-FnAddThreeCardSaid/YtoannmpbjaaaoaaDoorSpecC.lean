/-
  The model's functions of two columns: pairs, marks, turns without carries. Condition: texts of at most 2 to the power of 63, minus 1, bytes.
-/
import Derived.Test.YtoannmpbjaaaoaaDoorRowH
import Derived.Test.YtoannmpbjaaaoaaDoorSpecB
namespace Go.Proofs.YtoannmpbjaaaoaaDoor
open Go.RowKit
theorem sPair_any (a b : ByteArray) (hsa : a.size ≤ 9223372036854775807) (hsb : b.size ≤ 9223372036854775807) (w : World) : Calls Tryd.prog 46 #[.string a, .string b] w fun e w' => e = .returned (.bool (pair a b)) ∧ w = w' := by
  have VA := hidH fun w => sValid_any a hsa w
  have VB := hidH fun w => sValid_any b hsb w
  cases ha : ok a
  · rw [ha] at VA
    have e : pair a b = false := by unfold pair; rw [ha]; rfl
    rw [e]
    clear e ha
    go_enter Tryd.func46, Tryd.ntmps46
    go_wp2_with fail
    refine (VA.out _).mono ?_; rintro e w1 ⟨rfl, rfl⟩
    go_wp2
    go_ret
    exact ⟨rfl, rfl⟩
  · cases hb : ok b
    · rw [ha] at VA
      rw [hb] at VB
      have e : pair a b = false := by unfold pair; rw [ha, hb]; rfl
      rw [e]
      clear e ha hb
      go_enter Tryd.func46, Tryd.ntmps46
      go_wp2_with fail
      refine (VA.out _).mono ?_; rintro e w1 ⟨rfl, rfl⟩
      go_wp2_with fail
      refine (VB.out _).mono ?_; rintro e w1 ⟨rfl, rfl⟩
      go_wp2
      go_ret
      exact ⟨rfl, rfl⟩
    · rw [ha] at VA
      rw [hb] at VB
      have e : pair a b = decide (a.size = b.size) := by unfold pair; rw [ha, hb]; rfl
      rw [e]
      have hq : ((a.size : Int) == (b.size : Int)) = decide (a.size = b.size) := by
        rw [Bool.eq_iff_iff, beq_iff_eq, decide_eq_true_eq]; omega
      generalize decide (a.size = b.size) = r at *
      clear e ha hb
      go_enter Tryd.func46, Tryd.ntmps46
      go_wp2_with fail
      refine (VA.out _).mono ?_; rintro e w1 ⟨rfl, rfl⟩
      go_wp2_with fail
      refine (VB.out _).mono ?_; rintro e w1 ⟨rfl, rfl⟩
      go_wp2
      go_ret
      exact ⟨rfl, rfl⟩
/-- Bytes in a slice of which the last m are still 0. -/
def fwdC (l : List UInt8) (m : Nat) : Array Value := (l.map (fun c => Value.int .u8 c.toNat) ++ List.replicate m (Value.int .u8 0)).toArray
theorem fwdC_start (n : Nat) : byteC n [] = fwdC [] n := by simp [byteC, fwdC]
theorem fwdC_full (l : List UInt8) : fwdC l 0 = byteC 0 l := by simp [byteC, fwdC]
theorem fwdC_at (l : List UInt8) (m : Nat) (j : Nat) (h : j < l.length + m) : ∃ v, (fwdC l m)[j]? = some v := by
  have : j < (fwdC l m).size := by simp [fwdC]; omega
  exact ⟨_, Array.getElem?_eq_getElem this⟩
theorem fwdC_set (l : List UInt8) (m : Nat) (c : UInt8) : (fwdC l (m + 1)).setIfInBounds l.length (.int .u8 c.toNat) = fwdC (l ++ [c]) m := by
  unfold fwdC
  rw [List.setIfInBounds_toArray, List.set_append_right _ _ (by simp), List.length_map, Nat.sub_self, List.replicate_succ, List.set_cons_zero]
  simp
theorem chr_nat (d : Int) (h : 0 ≤ d ∧ d ≤ 9) : ((chr d).toNat : Int) = 48 + d := byte_of d h
end Go.Proofs.YtoannmpbjaaaoaaDoor
