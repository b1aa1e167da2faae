/-
  Places of a layout: the model, at every argument. No conditions.
-/
import Derived.Test.YtcinhmfjnjecdaaPlcB
namespace Go.Proofs.Ytcinhmfjnjecdaa
set_option maxRecDepth 4000
open Go.RowKit
theorem sLayoutValid_any (R A W : Int) (w : World) : Calls Try.prog 63 #[layV R A W] w fun e w' => e = .returned (.bool (layOk R A W)) ∧ w' = w.alloc (.cells #[.int .i64 R, .int .i64 A, .int .i64 W] 36) := by
  unfold layOk layV
  have H1 := hidH (fun W' => sIn_any R 1 20 _ rfl W')
  have H2 := hidH (fun W' => sIn_any A 1 6 _ rfl W')
  have H3 := hidH (fun W' => sIn_any W 1 12 _ rfl W')
  generalize decide ((1 : Int) ≤ R ∧ R ≤ 20) = b1 at *
  generalize decide ((1 : Int) ≤ A ∧ A ≤ 6) = b2 at *
  generalize decide ((1 : Int) ≤ W ∧ W ≤ 12) = b3 at *
  cases b1
  · go_enter Try.func63, Try.ntmps63
    go_wp2_with fail
    refine (H1.out _).mono ?_; rintro e w1 ⟨rfl, rfl⟩
    go_wp2_with fail
    go_ret
    exact ⟨rfl, rfl⟩
  · cases b2
    · go_enter Try.func63, Try.ntmps63
      go_wp2_with fail
      refine (H1.out _).mono ?_; rintro e w1 ⟨rfl, rfl⟩
      go_wp2_with fail
      refine (H2.out _).mono ?_; rintro e w1 ⟨rfl, rfl⟩
      go_wp2_with fail
      go_ret
      exact ⟨rfl, rfl⟩
    · go_enter Try.func63, Try.ntmps63
      go_wp2_with fail
      refine (H1.out _).mono ?_; rintro e w1 ⟨rfl, rfl⟩
      go_wp2_with fail
      refine (H2.out _).mono ?_; rintro e w1 ⟨rfl, rfl⟩
      go_wp2_with fail
      refine (H3.out _).mono ?_; rintro e w1 ⟨rfl, rfl⟩
      go_wp2_with fail
      go_ret
      exact ⟨rfl, rfl⟩
end Go.Proofs.Ytcinhmfjnjecdaa
