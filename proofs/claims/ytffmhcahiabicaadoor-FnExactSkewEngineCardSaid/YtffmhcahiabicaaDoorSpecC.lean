/-
  The model's functions of two columns: pairs, marks, turns without carries. Condition: texts of at most 2 to the power of 63, minus 1, bytes.
-/
import Derived.Test.YtffmhcahiabicaaDoorRowH
import Derived.Test.YtffmhcahiabicaaDoorSpecB
namespace Go.Proofs.YtffmhcahiabicaaDoor
set_option maxRecDepth 4000
open Go.RowKit
/-- Bytes in a slice of which the last m are still 0. -/
def fwdC (l : List UInt8) (m : Nat) : Array Value := (l.map (fun c => Value.int .u8 c.toNat) ++ List.replicate m (Value.int .u8 0)).toArray
theorem fwdC_start (n : Nat) : byteC n [] = fwdC [] n := by simp [byteC, fwdC]
theorem fwdC_full (l : List UInt8) : fwdC l 0 = byteC 0 l := by simp [byteC, fwdC]
theorem fwdC_at (l : List UInt8) (m : Nat) (j : Nat) (h : j < l.length + m) : ∃ v, (fwdC l m)[j]? = some v := by
  have : j < (fwdC l m).size := by simp [fwdC]; omega
  exact ⟨_, Array.getElem?_eq_getElem this⟩
theorem fwdC_set (l : List UInt8) (m : Nat) (c : UInt8) : (fwdC l (m + 1)).setIfInBounds l.length (.int .u8 c.toNat) = fwdC (l ++ [c]) m := by
  unfold fwdC
  rw [List.setIfInBounds_toArray, List.set_append_right _ _ (by simp), List.length_map, Nat.sub_self, List.replicate_succ, List.set_cons_zero]
  simp
theorem chr_nat (d : Int) (h : 0 ≤ d ∧ d ≤ 9) : ((chr d).toNat : Int) = 48 + d := byte_of d h
end Go.Proofs.YtffmhcahiabicaaDoor
