/-
  Two slices of texts compared: the program and the model. No conditions.
-/
import Derived.Test.YtgafhkjcdddhcaaDoorLnwC
import Derived.BigQuiet
import Derived.BigRegion
namespace Go.Proofs.YtgafhkjcdddhcaaDoor
set_option maxRecDepth 4000
open Go.RowKit
set_option maxHeartbeats 1000000 in
theorem sameT_any (v u : Value) (zs ys : List ByteArray) (w : World) (l1 h1 l2 h2 : Nat) (hv : LiesS w l1 h1 v zs) (hu : LiesS w l2 h2 u ys) : Calls Tryd.prog 50 #[v, u] w (Gives (.bool (decide (zs = ys))) w) := by
  obtain ⟨a, cap, rfl, hlc, hcm, hnil, hcell⟩ := hv
  obtain ⟨a2, cap2, rfl, hlc2, hcm2, hnil2, hcell2⟩ := hu
  unfold maxLen at hcm hcm2
  have HC := hidH hcell
  have HC2 := hidH hcell2
  clear hcell hnil hcell2 hnil2
  by_cases hlen : zs.length = ys.length
  · have HLEN := hidH hlen
    go_enter Tryd.func50, Tryd.ntmps50
    go_wp2_with fail
    go_loopw [13] (fun i wr => ∃ k : Nat, k ≤ zs.length ∧ i = .int .i64 k ∧ (∀ j, j < k → zs[j]? = ys[j]?) ∧ Below w.heap.size w wr) (fun i _ => zs.length - (intOf i).toNat)
    case atStart => exact ⟨0, Nat.zero_le _, rfl, fun j h => absurd h (Nat.not_lt_zero _), Below.refl _ _⟩
    case round =>
      obtain ⟨k, hk, rfl, hall, hb⟩ := hrel
      have HA := hidH hall
      have HB := hidH hb
      clear hall hb
      by_cases hlt : k < zs.length
      · obtain ⟨z, hz⟩ := get_lt zs k hlt
        obtain ⟨y, hy⟩ := get_lt ys k (by omega)
        obtain ⟨b, off, rfl, _, _, hc0⟩ := HC.out k z hz
        obtain ⟨b2, off2, rfl, _, _, hc1⟩ := HC2.out k y hy
        have hc := (HB.out.cell (p := ⟨b, off + k, none⟩) (cell_blk _ _ _ hc0)).trans hc0
        have hd := (HB.out.cell (p := ⟨b2, off2 + k, none⟩) (cell_blk _ _ _ hc1)).trans hc1
        have HZ := hidH hz
        have HY := hidH hy
        have hk2 : k < ys.length := by omega
        clear hz hy hc0 hc1
        by_cases he : z = y
        · subst he
          have hne : (z.toList != z.toList) = false := by simp
          clear hlen
          go_wp2_with fail
          go_quiet (fail)
          go_wp2_with fail
          go_roundw
          case rel =>
            refine ⟨k + 1, by omega, by go_num, fun j hj => ?_, by first | exact HB.out | exact below_drewN HB.out _⟩
            by_cases e : j = k
            · subst e; rw [HZ.out, HY.out]
            · exact HA.out j (by omega)
          case measure => simp [intOf]; omega
        · have HF := hidH (show decide (zs = ys) = false from decide_eq_false (fun e => he (by have h1 := HZ.out; rw [e, HY.out] at h1; injection h1 with h1; exact h1.symm)))
          have hle : ¬ z.toList = y.toList := fun e => he (by rw [Lib.toList_data, Lib.toList_data] at e; exact ByteArray.ext (Array.toList_inj.1 e))
          have hl1 := bytes_ne z y he
          have hl2 : (z.toList != y.toList) = true := bne_iff_ne.2 hle
          clear hlen hle
          go_wp2_with fail
          go_quiet (fail)
          go_wp2_with fail
          go_ret
          exact ⟨by rw [HF.out]; rfl, by first | exact HB.out | exact below_drewN HB.out _⟩
      · obtain rfl : k = zs.length := by omega
        have HT := hidH (show decide (zs = ys) = true from decide_eq_true (List.ext_getElem? fun j => by
          by_cases hj : j < zs.length
          · exact HA.out j hj
          · rw [List.getElem?_eq_none (by omega), List.getElem?_eq_none (by have := HLEN.out; omega)]))
        have hlt3 : ¬ zs.length < ys.length := by omega
        have hlt4 : ¬ (zs.length : Int) < ys.length := by omega
        go_wp2_with fail
        go_ret
        exact ⟨by rw [HT.out]; rfl, HB.out⟩
  · have HF := hidH (show decide (zs = ys) = false from decide_eq_false (fun e => hlen (by rw [e])))
    have hln : ¬ (zs.length : Int) = (ys.length : Int) := by omega
    go_enter Tryd.func50, Tryd.ntmps50
    go_wp2_with fail
    go_ret
    exact ⟨by rw [HF.out]; rfl, Below.refl _ _⟩
set_option maxHeartbeats 1000000 in
theorem sSameT_any (v u : Value) (zs ys : List ByteArray) (w : World) (l1 h1 l2 h2 : Nat) (hv : LiesS w l1 h1 v zs) (hu : LiesS w l2 h2 u ys) : Calls Tryd.prog 60 #[v, u] w (Gives (.bool (decide (zs = ys))) w) := by
  obtain ⟨a, cap, rfl, hlc, hcm, hnil, hcell⟩ := hv
  obtain ⟨a2, cap2, rfl, hlc2, hcm2, hnil2, hcell2⟩ := hu
  unfold maxLen at hcm hcm2
  have HC := hidH hcell
  have HC2 := hidH hcell2
  clear hcell hnil hcell2 hnil2
  by_cases hlen : zs.length = ys.length
  · have HLEN := hidH hlen
    go_enter Tryd.func60, Tryd.ntmps60
    go_wp2_with fail
    go_loopw [5] (fun i wr => ∃ k : Nat, k ≤ zs.length ∧ i = .int .i64 k ∧ (∀ j, j < k → zs[j]? = ys[j]?) ∧ Below w.heap.size w wr) (fun i _ => zs.length - (intOf i).toNat)
    case atStart => exact ⟨0, Nat.zero_le _, rfl, fun j h => absurd h (Nat.not_lt_zero _), Below.refl _ _⟩
    case round =>
      obtain ⟨k, hk, rfl, hall, hb⟩ := hrel
      have HA := hidH hall
      have HB := hidH hb
      clear hall hb
      by_cases hlt : k < zs.length
      · obtain ⟨z, hz⟩ := get_lt zs k hlt
        obtain ⟨y, hy⟩ := get_lt ys k (by omega)
        obtain ⟨b, off, rfl, _, _, hc0⟩ := HC.out k z hz
        obtain ⟨b2, off2, rfl, _, _, hc1⟩ := HC2.out k y hy
        have hc := (HB.out.cell (p := ⟨b, off + k, none⟩) (cell_blk _ _ _ hc0)).trans hc0
        have hd := (HB.out.cell (p := ⟨b2, off2 + k, none⟩) (cell_blk _ _ _ hc1)).trans hc1
        have HZ := hidH hz
        have HY := hidH hy
        have hk2 : k < ys.length := by omega
        clear hz hy hc0 hc1
        by_cases he : z = y
        · subst he
          have hne : (z.toList != z.toList) = false := by simp
          clear hlen
          go_wp2_with fail
          go_quiet (fail)
          go_wp2_with fail
          go_roundw
          case rel =>
            refine ⟨k + 1, by omega, by go_num, fun j hj => ?_, by first | exact HB.out | exact below_drewN HB.out _⟩
            by_cases e : j = k
            · subst e; rw [HZ.out, HY.out]
            · exact HA.out j (by omega)
          case measure => simp [intOf]; omega
        · have HF := hidH (show decide (zs = ys) = false from decide_eq_false (fun e => he (by have h1 := HZ.out; rw [e, HY.out] at h1; injection h1 with h1; exact h1.symm)))
          have hle : ¬ z.toList = y.toList := fun e => he (by rw [Lib.toList_data, Lib.toList_data] at e; exact ByteArray.ext (Array.toList_inj.1 e))
          have hl1 := bytes_ne z y he
          have hl2 : (z.toList != y.toList) = true := bne_iff_ne.2 hle
          clear hlen hle
          go_wp2_with fail
          go_quiet (fail)
          go_wp2_with fail
          go_ret
          exact ⟨by rw [HF.out]; rfl, by first | exact HB.out | exact below_drewN HB.out _⟩
      · obtain rfl : k = zs.length := by omega
        have HT := hidH (show decide (zs = ys) = true from decide_eq_true (List.ext_getElem? fun j => by
          by_cases hj : j < zs.length
          · exact HA.out j hj
          · rw [List.getElem?_eq_none (by omega), List.getElem?_eq_none (by have := HLEN.out; omega)]))
        have hlt3 : ¬ zs.length < ys.length := by omega
        have hlt4 : ¬ (zs.length : Int) < ys.length := by omega
        go_wp2_with fail
        go_ret
        exact ⟨by rw [HT.out]; rfl, HB.out⟩
  · have HF := hidH (show decide (zs = ys) = false from decide_eq_false (fun e => hlen (by rw [e])))
    have hln : ¬ (zs.length : Int) = (ys.length : Int) := by omega
    go_enter Tryd.func60, Tryd.ntmps60
    go_wp2_with fail
    go_ret
    exact ⟨by rw [HF.out]; rfl, Below.refl _ _⟩
end Go.Proofs.YtgafhkjcdddhcaaDoor
