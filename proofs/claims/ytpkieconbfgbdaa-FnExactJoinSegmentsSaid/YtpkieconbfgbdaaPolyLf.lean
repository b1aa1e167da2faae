/-
  The walk of a law: a shifted polynomial has the values as many arguments later and the same highest difference, and shifting it back restores it. No conditions but that the bytes that came in can be read.
-/
import Derived.Test.YtpkieconbfgbdaaPolyLe
import Derived.Test.YtpkieconbfgbdaaPolyLc
import Derived.Test.YtpkieconbfgbdaaPolyNewton
namespace Go.Proofs.Ytpkieconbfgbdaa
set_option maxRecDepth 4000
open Go.RowKit
theorem newt_shift (L : Nat) (p : List Int) (n : Int) : newt L (fun m => evP p (m + n)) = shiftL p n L := by
  induction L generalizing p with
  | zero => rfl
  | succ L ih =>
    have e : Dl (fun m => evP p (m + n)) = fun m => evP p.tail (m + n) := funext fun m => by
      simp only [Dl]
      rw [show m + 1 + n = m + n + 1 by omega, evP_step]
      omega
    rw [newt, e, ih]
    unfold shiftL
    rw [List.range_succ_eq_map, List.map_cons, List.map_map]
    simp [Function.comp_def]
theorem ev_shift (p : List Int) (n m : Int) : evP (shiftL p n p.length) m = evP p (m + n) := by
  rw [← newt_shift]
  exact newt_eq p.length _ (top_shift (top_ev p) n) m
theorem shift_back (p : List Int) (n : Int) : shiftL (shiftL p n p.length) (-n) p.length = p := by
  have hl : (shiftL p n p.length).length = p.length := shiftL_length _ _ _
  refine ev_inj (by rw [shiftL_length]) fun m => ?_
  have h := ev_shift (shiftL p n p.length) (-n) m
  rw [hl] at h
  rw [h, ev_shift]
  congr 1
  omega
theorem shift_last (p : List Int) (n : Int) (m : Nat) (x : Int) (hm : p.length = m + 1) (hx : p[m]? = some x) : (shiftL p n p.length)[m]? = some x := by
  rw [shiftL_get _ _ _ _ (by omega)]
  have e : p.drop m = [x] := by
    obtain ⟨h1, h2⟩ := List.getElem?_eq_some_iff.1 hx
    rw [List.drop_eq_getElem_cons h1, h2, List.drop_eq_nil_of_le (by omega)]
  rw [e]
  simp [evP, ev, chN]
theorem shift_val (zs : List Int) (n m : Int) (hz : polyOk zs = true) (hs : polyOk (shiftL zs n zs.length) = true) (h1 : -200 ≤ m + n) (h2 : m + n ≤ 200) (h3 : -200 ≤ m) (h4 : m ≤ 200) : evA (shiftL zs n zs.length) m = evA zs (m + n) := by
  rw [evA_ok _ _ hs h3 h4, evA_ok _ _ hz h1 h2, ev_shift]
end Go.Proofs.Ytpkieconbfgbdaa
