/-
  ErrorPattern: the program and the model, at every argument. No conditions.
-/
import Derived.Test.YtmgncchlghmmoaaErrA
namespace Go.Proofs.Ytmgncchlghmmoaa
set_option maxRecDepth 4000
open Go.RowKit
theorem fillp_set (o : Nat) (a m c : Int) (k : Nat) (hk : k ≤ o) (hm : m = sg k * a) (hc : c = chN (o : Nat) k) : (fill (patL o a) k).set k (m * c) = fill (patL o a) (k + 1) := by
  subst hm; subst hc
  exact fill_set _ k _ (by rw [patL_get o a k hk, Int.mul_assoc, Int.mul_assoc, Int.mul_comm a])
end Go.Proofs.Ytmgncchlghmmoaa
