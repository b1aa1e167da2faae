/-
  Values of polynomials one after the other: the program and the model, at every argument. No conditions but that slices fit in memory.
-/
import Derived.Test.YtlicihjjbojpcaaPolyFa
namespace Go.Proofs.Ytlicihjjbojpcaa
set_option maxRecDepth 4000
open Go.RowKit
/-- What ValuesOf answers. -/
def cntOk (c : Int) : Bool := decide (0 ≤ c ∧ c ≤ 60)
def lastOk (n c : Int) : Bool := decide (n + c ≤ 201)
def valsOk (n c : Int) : Bool := decide (0 ≤ c ∧ c ≤ 60 ∧ n + c ≤ 201)
theorem valsOk_eq (n c : Int) : valsOk n c = (cntOk c && lastOk n c) := by
  rw [Bool.eq_iff_iff]; simp [valsOk, cntOk, lastOk, and_assoc]
def valuesA (zs : List Int) (n c : Int) : List Int := if polyOk zs && inB 200 n && valsOk n c then vals zs n c.toNat else []
def valuesB (zs : List Int) (n c : Int) : Bool := polyOk zs && inB 200 n && valsOk n c
theorem valuesA_len (zs : List Int) (n c : Int) : (valuesA zs n c).length ≤ 1048576 := by
  unfold valuesA
  split
  · rename_i h
    simp only [Bool.and_eq_true] at h
    have := of_decide_eq_true h.2
    rw [vals_length]; omega
  · simp
theorem inB_2e (n : Int) (h : inB 200 n = true) : -200 ≤ n ∧ n ≤ 200 := of_decide_eq_true h
end Go.Proofs.Ytlicihjjbojpcaa
