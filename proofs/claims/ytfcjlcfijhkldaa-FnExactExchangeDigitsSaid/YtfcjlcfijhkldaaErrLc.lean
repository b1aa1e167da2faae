/-
  The walk of the exact law of ExchangeDigits. No conditions.
-/
import Derived.Test.YtfcjlcfijhkldaaErrG
import Derived.Test.YtfcjlcfijhkldaaSl
namespace Go.Proofs.Ytfcjlcfijhkldaa
set_option maxRecDepth 4000
open Go.RowKit
set_option maxHeartbeats 1000000 in
theorem exExchangeDigits (n0 : Int) (n1 : Int) (w : World)  : Calls Try.prog 3 #[.int .i64 n0, .int .i64 n1] w (Gives (.bool true) w) := by
  go_enter Try.func3, Try.ntmps3
  have B0 := hidH (Below.refl w.heap.size w)
  go_wp2_with fail
  refine (sEx_any n0 n1 _).mono ?_; rintro e w1 ⟨rfl, hb⟩
  have B1 := hidH (B0.out.trans (hb.mono B0.out.size))
  have s1 := hb.size
  clear hb
  clear B0 
  go_wp2_with fail
  refine (ex_any n0 n1 _).mono ?_; rintro e w2 ⟨rfl, hb⟩
  have B2 := hidH (B1.out.trans (hb.mono B1.out.size))
  have s2 := hb.size
  clear hb
  clear B1 
  generalize exA n0 n1 = r0 at *
  generalize exOk n0 n1 = r1 at *
  go_wp2
  go_ret
  exact ⟨rfl, B2.out⟩
end Go.Proofs.Ytfcjlcfijhkldaa
