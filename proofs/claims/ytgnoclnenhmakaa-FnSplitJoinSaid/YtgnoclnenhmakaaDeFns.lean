/-
  The law's own comparison of two slices of numbers that hold the same. No conditions.
-/
import Derived.Test.YtgnoclnenhmakaaSl
namespace Go.Proofs.Ytgnoclnenhmakaa
set_option maxRecDepth 4000
open Go.RowKit
theorem deInts_yes (v u : Value) (zs : List Int) (w : World) (l1 h1 l2 h2 : Nat) (hv : Lies w l1 h1 v zs) (hu : Lies w l2 h2 u zs) : Calls Try.prog 19 #[v, u] w (Gives (.bool true) w) := by
  obtain ⟨a, cap, rfl, hlc, hcm, hnil, hcell⟩ := hv
  obtain ⟨a2, cap2, rfl, hlc2, hcm2, hnil2, hcell2⟩ := hu
  unfold maxLen at hcm hcm2
  have HC := hidH hcell
  have HC2 := hidH hcell2
  clear hcell hnil hcell2 hnil2
  go_enter Try.func19, Try.ntmps19
  go_wp2
  go_loopw [5] (fun i wr => ∃ k : Nat, k ≤ zs.length ∧ i = .int .i64 k ∧ Below w.heap.size w wr) (fun i _ => zs.length - (intOf i).toNat)
  case atStart => exact ⟨0, Nat.zero_le _, rfl, Below.refl _ _⟩
  case round =>
    obtain ⟨k, hk, rfl, hb⟩ := hrel
    have Hb := hidH hb
    clear hb
    by_cases hlt : k < zs.length
    · obtain ⟨z, hz⟩ := get_lt zs k hlt
      obtain ⟨b, off, rfl, _, _, hc⟩ := HC.out k z hz
      obtain ⟨b2, off2, rfl, _, _, hc2⟩ := HC2.out k z hz
      have hcw : wr.cell? ⟨b, off + k, none⟩ = some (.int .i64 z) := by rw [Hb.out.cell (p := ⟨b, off + k, none⟩) (cell_blk _ _ _ hc)]; exact hc
      have hcw2 : wr.cell? ⟨b2, off2 + k, none⟩ = some (.int .i64 z) := by rw [Hb.out.cell (p := ⟨b2, off2 + k, none⟩) (cell_blk _ _ _ hc2)]; exact hc2
      clear hz hc hc2
      go_wp2
      go_quiet (fail)
      go_wp2
      go_roundw
      case rel => exact ⟨k + 1, by omega, by go_num, below_drewN Hb.out _⟩
      case measure => simp [intOf]; omega
    · obtain rfl : k = zs.length := by omega
      go_wp2
      go_ret
      exact ⟨rfl, Hb.out⟩
end Go.Proofs.Ytgnoclnenhmakaa
