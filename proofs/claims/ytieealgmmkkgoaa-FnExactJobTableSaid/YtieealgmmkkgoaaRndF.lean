/-
  RoundError: the program, at every argument. No conditions but that slices fit in memory.
-/
import Derived.Test.YtieealgmmkkgoaaRndD
import Derived.BigQuiet
namespace Go.Proofs.Ytieealgmmkkgoaa
set_option maxRecDepth 4000
open Go.RowKit
theorem drewN_add6 (w : World) (a b : Nat) : (w.drewN a).drewN b = w.drewN (a + b) := by simp [World.drewN, Nat.add_assoc]
theorem eMax_step (u way : Int) (zs : List Int) (k : Nat) (z : Int) (h : zs[k]? = some z) : eMax u way zs (k + 1) = max (eMax u way zs k) (max (z - rndI z u way * u) (-(z - rndI z u way * u))) := by
  rw [eMax, getD_of h, rDif]
theorem rnd_prod (n u way : Int) (hu : IsUnit u) (h1 : -1000000000 ≤ n) (h2 : n ≤ 1000000000) : -1001000000 ≤ rndI n u way * u ∧ rndI n u way * u ≤ 1001000000 ∧ -1000000 < n - rndI n u way * u ∧ n - rndI n u way * u < 1000000 := by
  have hb := hu.bd
  have := rDif_bd u way n hu (by omega)
  unfold rDif at this
  omega
end Go.Proofs.Ytieealgmmkkgoaa
