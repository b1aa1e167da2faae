/-
  PutError: the program and the model, at every argument. No conditions but that slices fit in memory.
-/
import Derived.Test.YtpkieconbfgbdaaErrB
import Derived.Test.YtpkieconbfgbdaaPolyT
namespace Go.Proofs.Ytpkieconbfgbdaa
set_option maxRecDepth 4000
open Go.RowKit
/-- An entry that a table has. -/
def atOk (zs : List Int) (k : Int) : Bool := decide (0 ≤ k ∧ k < zs.length)
/-- An entry of a list with an amount added. -/
def putL (zs : List Int) (k : Nat) (a : Int) : List Int := zs.set k (zs.getD k 0 + a)
theorem putL_length (zs : List Int) (k : Nat) (a : Int) : (putL zs k a).length = zs.length := by simp [putL]
theorem getD_of {zs : List Int} {k : Nat} {z : Int} (h : zs[k]? = some z) : zs.getD k 0 = z := by rw [List.getD_eq_getElem?_getD, h]; rfl
def putOk (zs : List Int) (k a : Int) : Bool := tableOk zs && (atOk zs k && (inB 1000000000 a && inB 1000000000 (zs.getD k.toNat 0 + a)))
/-- What PutError answers. -/
def putA (zs : List Int) (k a : Int) : List Int := if putOk zs k a then putL zs k.toNat a else []
theorem putA_len (zs : List Int) (k a : Int) : (putA zs k a).length ≤ 1048576 := by
  unfold putA
  split
  · rename_i h
    simp only [putOk, Bool.and_eq_true] at h
    have := tableOk_len _ h.1
    rw [putL_length]; omega
  · simp
theorem tab_bd {zs : List Int} (h : tableOk zs = true) {k : Nat} {z : Int} (hz : zs[k]? = some z) : -1000000000 ≤ z ∧ z ≤ 1000000000 := ((listOk_iff _ _ _).1 h).2.2 z (List.mem_of_getElem? hz)
theorem tab_put (zs : List Int) (k : Nat) (a z : Int) (h : tableOk zs = true) (hz : zs[k]? = some z) : tableOk (putL zs k a) = inB 1000000000 (z + a) := by
  have hk := (List.getElem?_eq_some_iff.1 hz).1
  have ⟨h1, h2, h3⟩ := (listOk_iff _ _ _).1 h
  rw [Bool.eq_iff_iff]
  unfold tableOk
  rw [listOk_iff, putL_length, putL, getD_of hz, inB, decide_eq_true_eq]
  constructor
  · intro ⟨_, _, h⟩
    exact h _ (List.mem_of_getElem? (by rw [List.getElem?_set, if_pos rfl, if_pos hk]))
  · intro hb
    refine ⟨h1, h2, fun x hx => ?_⟩
    rcases List.mem_or_eq_of_mem_set hx with hx | rfl
    · exact h3 x hx
    · exact hb
def sAtOk (zs : List Int) (k : Int) : Bool := decide (0 ≤ k ∧ k ≤ (zs.length : Int) - 1)
theorem sAtOk_eq (zs : List Int) (k : Int) : sAtOk zs k = atOk zs k := by
  unfold sAtOk atOk
  rw [Bool.eq_iff_iff, decide_eq_true_eq, decide_eq_true_eq]; omega
end Go.Proofs.Ytpkieconbfgbdaa
