/-
  The laws' own test whether two engines are equal. Condition: at most 1048576 columns.
-/
import Derived.Test.YtffmhcahiabicaaDoorEngBox
import Derived.BigQuiet
namespace Go.Proofs.YtffmhcahiabicaaDoor
set_option maxRecDepth 4000
set_option linter.unusedVariables false
open Go.RowKit
theorem cell_allocS (w : World) (p : Addr) (o : Obj) {v : Value} (h : w.cell? p = some v) : (w.alloc o).cell? p = some v := by
  rw [(bMore (Below.refl w.heap.size w) o).cell (cell_blk _ _ _ h)]
  exact h
theorem bNew (w : World) (o : Obj) : Below w.heap.size w (w.alloc o) := bMore (Below.refl _ _) o
set_option maxHeartbeats 1000000 in
theorem deSame_yes (v u : Value) (zs : List ByteArray) (w : World) (l1 h1 l2 h2 : Nat) (hv : LiesS w l1 h1 v zs) (hu : LiesS w l2 h2 u zs) (hn : zs.length ≤ 1048576) : Calls Tryd.prog 23 #[.agg #[v], .agg #[u]] w (Gives (.bool true) w) := by
  by_cases h0 : zs.length = 0
  · obtain ⟨a, cap, rfl⟩ := hv.some
    obtain ⟨b, cap2, rfl⟩ := hu.some
    have BB := hidH (bMore (belowN' w (.slice a zs.length cap)) (.cells #[.slice b zs.length cap2] 26))
    have E1 := hidH ((EngAt.fresh w (.slice a zs.length cap)).alloc (.cells #[.slice b zs.length cap2] 26))
    have E2 := hidH (EngAt.newAt (w.alloc (.cells #[.slice a zs.length cap] 26)) (.slice b zs.length cap2) (w.heap.size + 1) (by simp))
    have c1 := E1.out.cell
    have c2 := E2.out.cell
    rw [h0] at *
    clear hv hu
    go_enter Tryd.func23, Tryd.ntmps23
    go_wp2
    go_loopw [5] (fun i wr => i = .int .i64 0 ∧ (w.alloc (.cells #[.slice a 0 cap] 26)).alloc (.cells #[.slice b 0 cap2] 26) = wr) (fun _ _ => 0)
    case atStart => exact ⟨rfl, rfl⟩
    case round =>
      obtain ⟨rfl, rfl⟩ := hrel
      go_wp2
      go_ret
      exact ⟨rfl, BB.out⟩
  · obtain ⟨b1, o1, cap, rfl, hlc, hcm, _, _, hbw, hcell⟩ := hv.addr (by omega)
    obtain ⟨b2, o2, cap2, rfl, hlc2, hcm2, _, _, hbw2, hcell2⟩ := hu.addr (by omega)
    have HC := hidH hcell
    have HC2 := hidH hcell2
    have BB := hidH (bMore (belowN' w (.slice (some ⟨b1, o1, none⟩) zs.length cap)) (.cells #[.slice (some ⟨b2, o2, none⟩) zs.length cap2] 26))
    have E1 := hidH ((EngAt.fresh w (.slice (some ⟨b1, o1, none⟩) zs.length cap)).alloc (.cells #[.slice (some ⟨b2, o2, none⟩) zs.length cap2] 26))
    have E2 := hidH (EngAt.newAt (w.alloc (.cells #[.slice (some ⟨b1, o1, none⟩) zs.length cap] 26)) (.slice (some ⟨b2, o2, none⟩) zs.length cap2) (w.heap.size + 1) (by simp))
    have c1 := E1.out.cell
    have c2 := E2.out.cell
    unfold maxLen at hcm hcm2
    clear hv hu hcell hcell2
    go_enter Tryd.func23, Tryd.ntmps23
    go_wp2
    go_loopw [5] (fun i wr => ∃ k : Nat, k ≤ zs.length ∧ i = .int .i64 k ∧ Below ((w.alloc (.cells #[.slice (some ⟨b1, o1, none⟩) zs.length cap] 26)).alloc (.cells #[.slice (some ⟨b2, o2, none⟩) zs.length cap2] 26)).heap.size ((w.alloc (.cells #[.slice (some ⟨b1, o1, none⟩) zs.length cap] 26)).alloc (.cells #[.slice (some ⟨b2, o2, none⟩) zs.length cap2] 26)) wr) (fun i _ => zs.length - (intOf i).toNat)
    case atStart => exact ⟨0, Nat.zero_le _, rfl, Below.refl _ _⟩
    case round =>
      obtain ⟨k, hk, rfl, hb⟩ := hrel
      have HB := hidH hb
      have HBW := hidH (bThen BB.out hb)
      have d1 := (E1.out.below hb).cell
      have d2 := (E2.out.below hb).cell
      clear hb c1 c2
      by_cases hlt : k < zs.length
      · obtain ⟨z, hz⟩ := get_lt zs k hlt
        have hc1 : wr.cell? ⟨b1, o1 + k, none⟩ = some (.string z) := by rw [HBW.out.cell (p := ⟨b1, o1 + k, none⟩) hbw]; exact HC.out k z hz
        have hc2 : wr.cell? ⟨b2, o2 + k, none⟩ = some (.string z) := by rw [HBW.out.cell (p := ⟨b2, o2 + k, none⟩) hbw2]; exact HC2.out k z hz
        have hne : (z.toList != z.toList) = false := bne_self_eq_false _
        have hk0 : (0 : Int) ≤ (k : Int) := Int.natCast_nonneg _
        have hk1 : (k : Int) < (zs.length : Int) := by omega
        clear hz
        go_wp2_with fail
        go_quiet (fail)
        go_wp2
        go_roundw
        case rel => exact ⟨k + 1, by omega, by go_num, below_drewN HB.out _⟩
        case measure => simp [intOf]; omega
      · obtain rfl : k = zs.length := by omega
        go_wp2
        go_ret
        exact ⟨rfl, HBW.out⟩
end Go.Proofs.YtffmhcahiabicaaDoor
