/-
  The laws' own functions on errata: equality, marks and whether they still stand. Condition: at most 1048576 errata.
-/
import Derived.Test.YtmejfkjbdokdaaaDoorErrEa
import Derived.Test.YtmejfkjbdokdaaaDoorSl
import Derived.Laws.Rows
namespace Go.Proofs.YtmejfkjbdokdaaaDoor
set_option maxRecDepth 4000
open Go.RowKit
theorem err_size (a b c : Value) : (Tryd.prog.info? 40).map (·.size) = some (#[a, b, c] : Array Value).size := by
  rw [show (#[a, b, c] : Array Value).size = 3 from rfl]
  kernel_rfl
theorem eqErr_yes (x y z : Int) (w : World) : Calls Tryd.prog 24 #[.agg #[.int .i64 x, .int .i64 y, .int .i64 z], .agg #[.int .i64 x, .int .i64 y, .int .i64 z]] w (Gives (.bool true) w) := by
  have BB := hidH (((Below.refl w.heap.size w).alloc (Nat.le_refl _) (.cells #[.int .i64 x, .int .i64 y, .int .i64 z] 40)).alloc (by simp) (.cells #[.int .i64 x, .int .i64 y, .int .i64 z] 40))
  go_enter Tryd.func24, Tryd.ntmps24
  go_wp2
  go_ret
  exact ⟨rfl, BB.out⟩
theorem over_len (k0 : Int) (n : Nat) (F : List Int) (j : Nat) (h : (upFrom k0 (3 * n)).length = F.length) (hj : j ≤ F.length) : (over (upFrom k0 (3 * n)) F j).length = F.length := by
  unfold over
  rw [List.length_append, List.length_take, List.length_drop]; omega
set_option maxHeartbeats 800000 in
theorem markE_any (v : Value) (n : Nat) (F : List Int) (k0 : Int) (w : World) (lo hi : Nat) (hv : Row3 w lo hi v n F) (hk1 : 0 ≤ k0) (hk0 : k0 ≤ 4194304) (hn : n ≤ 1048576) : Calls Tryd.prog 13 #[v, .int .i64 k0] w fun e w' => e = .returned (.int .i64 (k0 + 3 * n)) ∧ Row3 w' lo hi v n (upFrom k0 (3 * n)) ∧ Apart lo hi w w' := by
  obtain ⟨hF, a, cap, rfl, hnc, hcm, hnil, hR⟩ := hv
  by_cases h0 : n = 0
  · subst h0
    unfold maxLen at hcm
    have HN := hidH hnil
    clear hnil hR
    go_enter Tryd.func13, Tryd.ntmps13
    go_wp2
    go_loopw [1, 5] (fun m i wr => i = .int .i64 0 ∧ m = .int .i64 k0 ∧ w = wr) (fun _ _ _ => 0)
    case atStart => exact ⟨rfl, rfl, rfl⟩
    case round =>
      obtain ⟨rfl, rfl, rfl⟩ := hrel
      go_wp2
      go_ret
      exact ⟨by simp, Row3.nil _ _ _ _ _ (by unfold maxLen; omega) HN.out, Apart.of_below (Below.refl _ _)⟩
  · obtain ⟨b, c2, e, _, _, hlo, hhi, hB⟩ := hR.blk (by omega)
    injection e with e1 e2 e3
    subst e1
    have HT := hidH (show (upFrom k0 (3 * n)).length = F.length by rw [upFrom_length, hF])
    have HB0 := hidH hB
    have HF := hidH hF
    clear hB hR hnil hF e2 e3
    unfold maxLen at hcm
    go_enter Tryd.func13, Tryd.ntmps13
    go_wp2
    go_loopw [1, 5] (fun m i wr => ∃ k : Nat, k ≤ n ∧ i = .int .i64 k ∧ m = .int .i64 (k0 + 3 * k) ∧ Blk wr b (over (upFrom k0 (3 * n)) F (k * 3)) ∧ Apart lo hi w wr) (fun _ i _ => n - (intOf i).toNat)
    case atStart => exact ⟨0, Nat.zero_le _, rfl, by simp, HB0.out, Apart.of_below (Below.refl _ _)⟩
    case round =>
      obtain ⟨k, hk, rfl, rfl, hB, ha⟩ := hrel
      have HB := hidH hB
      have HA := hidH ha
      clear hB ha
      by_cases hlt : k < n
      · have hF := HF.out
        obtain ⟨x0, hx0⟩ := over_at (upFrom k0 (3 * n)) F (k * 3) HT.out (by omega)
        obtain ⟨c0, f0⟩ := HB.out.2 _ x0 hx0
        have hl := (over_len k0 n F (k * 3) HT.out (by omega))
        obtain ⟨x1, hx1⟩ := get_lt (over (upFrom k0 (3 * n)) F (k * 3)) (k * 3 + 1) (by omega)
        obtain ⟨x2, hx2⟩ := get_lt (over (upFrom k0 (3 * n)) F (k * 3)) (k * 3 + 2) (by omega)
        obtain ⟨c1, f1⟩ := HB.out.2 _ x1 hx1
        obtain ⟨c2, f2⟩ := HB.out.2 _ x2 hx2
        have HS := hidH (show (((over (upFrom k0 (3 * n)) F (k * 3)).set (k * 3) (k0 + 3 * k)).set (k * 3 + 1) (k0 + 3 * k + 1)).set (k * 3 + 2) (k0 + 3 * k + 1 + 1) = over (upFrom k0 (3 * n)) F ((k + 1) * 3) by
          rw [over_set _ _ (k * 3) _ HT.out (by rw [upFrom_get _ _ _ (by omega)]; congr 1; omega), over_set _ _ (k * 3 + 1) _ HT.out (by rw [upFrom_get _ _ _ (by omega)]; congr 1; omega), over_set _ _ (k * 3 + 1 + 1) _ HT.out (by rw [upFrom_get _ _ _ (by omega)]; congr 1; omega), show k * 3 + 1 + 1 + 1 = (k + 1) * 3 by omega])
        have K1 := hidH (((HB.out.set (k * 3) (k0 + 3 * k)).set (k * 3 + 1) (k0 + 3 * k + 1)).set (k * 3 + 2) (k0 + 3 * k + 1 + 1))
        clear hx0 hx1 hx2 hF hl
        have hkb : 3 * (k : Int) ≤ 3145728 := by omega
        go_wp2
        go_roundw
        case rel => exact ⟨k + 1, by omega, by go_num, by go_num, by rw [← HS.out]; exact K1.out, HA.out.trans (((Apart.of_onto (Onto.setCell b _ _ _) hlo hhi).trans (Apart.of_onto (Onto.setCell b _ _ _) hlo hhi)).trans (Apart.of_onto (Onto.setCell b _ _ _) hlo hhi))⟩
        case measure => simp [intOf]; omega
      · obtain rfl : k = n := by omega
        have hF := HF.out
        go_wp2
        go_ret
        have hB := HB.out
        rw [show k * 3 = F.length by omega, over_all _ _ HT.out] at hB
        exact ⟨rfl, ⟨by rw [upFrom_length], _, cap, rfl, hnc, by unfold maxLen; omega, (fun e => by cases e), hB.row hlo hhi (Nat.le_refl _) (by rw [upFrom_length]; unfold maxLen; omega) rfl⟩, HA.out⟩
set_option maxHeartbeats 800000 in
theorem heldE_any (v : Value) (k0 : Int) (n : Nat) (w : World) (lo hi : Nat) (hv : Lies3 w lo hi v n (upFrom k0 (3 * n))) (hk1 : 0 ≤ k0) (hk0 : k0 ≤ 4194304) (hn : n ≤ 1048576) : Calls Tryd.prog 14 #[v, .int .i64 k0] w (Gives (.int .i64 (k0 + 3 * n)) w) := by
  obtain ⟨_, a, cap, rfl, hnc, hcm, hnil, hL⟩ := hv
  unfold maxLen at hcm
  obtain ⟨a', c', e, _, _, _, hcell⟩ := hL
  injection e with e1 e2 e3
  subst e1
  have HC := hidH hcell
  clear hcell hnil e2 e3
  go_enter Tryd.func14, Tryd.ntmps14
  go_wp2
  go_loopw [1, 5] (fun m i wr => ∃ k : Nat, k ≤ n ∧ i = .int .i64 k ∧ m = .int .i64 (k0 + 3 * k) ∧ Below w.heap.size w wr) (fun _ i _ => n - (intOf i).toNat)
  case atStart => exact ⟨0, Nat.zero_le _, rfl, by simp, Below.refl _ _⟩
  case round =>
    obtain ⟨k, hk, rfl, rfl, hb⟩ := hrel
    have Hb := hidH hb
    clear hb
    by_cases hlt : k < n
    · obtain ⟨b, off, rfl, _, _, h0⟩ := HC.out (k * 3) _ (upFrom_get _ _ _ (by omega))
      obtain ⟨_, _, e, _, _, h1⟩ := HC.out (k * 3 + 1) _ (upFrom_get _ _ _ (by omega))
      injection e with e; injection e with e1 e2; subst e1; subst e2
      obtain ⟨_, _, e, _, _, h2⟩ := HC.out (k * 3 + 2) _ (upFrom_get _ _ _ (by omega))
      injection e with e; injection e with e1 e2; subst e1; subst e2
      have c0 : wr.cell? ⟨b, off + k * 3, none⟩ = some (.int .i64 (k0 + 3 * k)) := by rw [Hb.out.cell (p := ⟨b, off + k * 3, none⟩) (cell_blk _ _ _ h0), h0]; congr 2; omega
      have c1 : wr.cell? ⟨b, off + k * 3 + 1, none⟩ = some (.int .i64 (k0 + 3 * k + 1)) := by rw [show off + k * 3 + 1 = off + (k * 3 + 1) by omega, Hb.out.cell (p := ⟨b, off + (k * 3 + 1), none⟩) (cell_blk _ _ _ h1), h1]; congr 2; omega
      have c2 : wr.cell? ⟨b, off + k * 3 + 2, none⟩ = some (.int .i64 (k0 + 3 * k + 2)) := by rw [show off + k * 3 + 2 = off + (k * 3 + 2) by omega, Hb.out.cell (p := ⟨b, off + (k * 3 + 2), none⟩) (cell_blk _ _ _ h2), h2]; congr 2; omega
      clear h0 h1 h2
      have hkb : 3 * (k : Int) ≤ 3145728 := by omega
      go_wp2
      go_roundw
      case rel => exact ⟨k + 1, by omega, by go_num, by go_num, Hb.out⟩
      case measure => simp [intOf]; omega
    · obtain rfl : k = n := by omega
      go_wp2
      go_ret
      exact ⟨rfl, Hb.out⟩
set_option maxHeartbeats 1600000 in
theorem eqE_yes (v u : Value) (n : Nat) (F : List Int) (w : World) (l1 h1 l2 h2 : Nat) (hv : Lies3 w l1 h1 v n F) (hu : Lies3 w l2 h2 u n F) (hn : n ≤ 1048576) : Calls Tryd.prog 10 #[v, u] w (Gives (.bool true) w) := by
  obtain ⟨hF, a, cap, rfl, hnc, hcm, hnil, hL⟩ := hv
  obtain ⟨_, a2, cap2, rfl, hnc2, hcm2, hnil2, hL2⟩ := hu
  unfold maxLen at hcm hcm2
  obtain ⟨a', c', e, _, _, _, hcell⟩ := hL
  injection e with e1 e2 e3
  subst e1
  clear e2 e3
  obtain ⟨a', c', e, _, _, _, hcell2⟩ := hL2
  injection e with e1 e2 e3
  subst e1
  clear e2 e3
  have HC := hidH hcell
  have HC2 := hidH hcell2
  have HF := hidH hF
  clear hcell hcell2 hnil hnil2 hF
  go_enter Tryd.func10, Tryd.ntmps10
  go_wp2
  go_loopw [5] (fun i wr => ∃ k : Nat, k ≤ n ∧ i = .int .i64 k ∧ Below w.heap.size w wr) (fun i _ => n - (intOf i).toNat)
  case atStart => exact ⟨0, Nat.zero_le _, rfl, Below.refl _ _⟩
  case round =>
    obtain ⟨k, hk, rfl, hb⟩ := hrel
    have Hb := hidH hb
    clear hb
    by_cases hlt : k < n
    · have hF := HF.out
      obtain ⟨x, hx⟩ := get_lt F (k * 3) (by omega)
      obtain ⟨y, hy⟩ := get_lt F (k * 3 + 1) (by omega)
      obtain ⟨z, hz⟩ := get_lt F (k * 3 + 2) (by omega)
      obtain ⟨b, off, rfl, _, _, h0⟩ := HC.out _ x hx
      obtain ⟨_, _, e, _, _, h1⟩ := HC.out _ y hy
      injection e with e; injection e with e1 e2; subst e1; subst e2
      obtain ⟨_, _, e, _, _, h2⟩ := HC.out _ z hz
      injection e with e; injection e with e1 e2; subst e1; subst e2
      obtain ⟨b2, off2, rfl, _, _, g0⟩ := HC2.out _ x hx
      obtain ⟨_, _, e, _, _, g1⟩ := HC2.out _ y hy
      injection e with e; injection e with e1 e2; subst e1; subst e2
      obtain ⟨_, _, e, _, _, g2⟩ := HC2.out _ z hz
      injection e with e; injection e with e1 e2; subst e1; subst e2
      have c0 : wr.cell? ⟨b, off + k * 3, none⟩ = some (.int .i64 x) := by rw [Hb.out.cell (p := ⟨b, off + k * 3, none⟩) (cell_blk _ _ _ h0)]; exact h0
      have c1 : wr.cell? ⟨b, off + k * 3 + 1, none⟩ = some (.int .i64 y) := by rw [show off + k * 3 + 1 = off + (k * 3 + 1) by omega, Hb.out.cell (p := ⟨b, off + (k * 3 + 1), none⟩) (cell_blk _ _ _ h1)]; exact h1
      have c2 : wr.cell? ⟨b, off + k * 3 + 2, none⟩ = some (.int .i64 z) := by rw [show off + k * 3 + 2 = off + (k * 3 + 2) by omega, Hb.out.cell (p := ⟨b, off + (k * 3 + 2), none⟩) (cell_blk _ _ _ h2)]; exact h2
      have d0 : wr.cell? ⟨b2, off2 + k * 3, none⟩ = some (.int .i64 x) := by rw [Hb.out.cell (p := ⟨b2, off2 + k * 3, none⟩) (cell_blk _ _ _ g0)]; exact g0
      have d1 : wr.cell? ⟨b2, off2 + k * 3 + 1, none⟩ = some (.int .i64 y) := by rw [show off2 + k * 3 + 1 = off2 + (k * 3 + 1) by omega, Hb.out.cell (p := ⟨b2, off2 + (k * 3 + 1), none⟩) (cell_blk _ _ _ g1)]; exact g1
      have d2 : wr.cell? ⟨b2, off2 + k * 3 + 2, none⟩ = some (.int .i64 z) := by rw [show off2 + k * 3 + 2 = off2 + (k * 3 + 2) by omega, Hb.out.cell (p := ⟨b2, off2 + (k * 3 + 2), none⟩) (cell_blk _ _ _ g2)]; exact g2
      clear h0 h1 h2 g0 g1 g2 hx hy hz hF
      have HE := hidH (fun W => eqErr_yes x y z W)
      have HBc := hidH (Below.refl wr.heap.size wr)
      go_wp2_with fail
      go_region_with ((go_at_call 24; (with_reducible refine (HE.out _).mono ?_); rintro e wd ⟨rfl, hbd⟩; (have HBc := hidH (Below.trans ((Below.refl wr.heap.size wr).drew) (hbd.mono (Nat.le_refl _)))); clear hbd))
      all_goals (
        clear c0 c1 c2 d0 d1 d2
        go_wp2_with fail
        go_roundw
        case rel => exact ⟨k + 1, by omega, by go_num, Hb.out.trans (HBc.out.mono Hb.out.size)⟩
        case measure => simp [intOf]; omega)
    · obtain rfl : k = n := by omega
      go_wp2
      go_ret
      exact ⟨rfl, Hb.out⟩
end Go.Proofs.YtmejfkjbdokdaaaDoor
