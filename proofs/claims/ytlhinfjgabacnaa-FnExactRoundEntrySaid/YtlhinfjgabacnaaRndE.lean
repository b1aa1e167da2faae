/-
  The walk of the exact law of RoundEntry. No conditions.
-/
import Derived.Test.YtlhinfjgabacnaaRndC
namespace Go.Proofs.Ytlhinfjgabacnaa
set_option maxRecDepth 4000
open Go.RowKit
theorem exRoundEntry (n0 n1 n2 : Int) (w : World) : Calls Try.prog 3 #[.int .i64 n0, .int .i64 n1, .int .i64 n2] w (Gives (.bool true) w) := by
  have HS := hidH (fun W => sRoundEntry_any n0 n1 n2 W)
  have HI := hidH (fun W => roundEntry_any n0 n1 n2 W)
  generalize rndN n0 n1 n2 = r at *
  generalize rndB n0 n1 n2 = b at *
  cases b
  all_goals (
    go_enter Try.func3, Try.ntmps3
    go_wp2_with fail
    refine (HS.out _).mono ?_; rintro e w1 ⟨rfl, rfl⟩
    go_wp2_with fail
    refine (HI.out _).mono ?_; rintro e w1 ⟨rfl, hb⟩
    have HB := hidH hb
    clear hb
    go_wp2_with fail
    go_ret
    exact ⟨rfl, HB.out⟩)
end Go.Proofs.Ytlhinfjgabacnaa
