/-
  Slices of segments in memory: a number and a slice of numbers each, that can be read. No conditions.
-/
import Derived.Test.YtpkieconbfgbdaaPlanBox
namespace Go.Proofs.Ytpkieconbfgbdaa
set_option maxRecDepth 4000
open Go.RowKit
/-- The slice v holds these segments, which can be read. -/
def LiesSg (w : World) (hi : Nat) (v : Value) (cs : List (Int × List Int)) : Prop := ∃ (a : Option Addr) (cap : Nat), v = .slice a cs.length cap ∧ cs.length ≤ cap ∧ cap ≤ maxLen ∧ (a = none → cap = 0) ∧
  ∀ (j : Nat) c zs, cs[j]? = some (c, zs) → ∃ b off u, a = some ⟨b, off, none⟩ ∧ b < hi ∧ w.cell? ⟨b, off + j * 2, none⟩ = some (.int .i64 c) ∧ w.cell? ⟨b, off + j * 2 + 1, none⟩ = some u ∧ Lies w 0 hi u zs
theorem LiesSg.below {w w' : World} {hi : Nat} {v : Value} {cs : List (Int × List Int)} (h : LiesSg w hi v cs) (hb : Below w.heap.size w w') : LiesSg w' hi v cs := by
  obtain ⟨a, cap, h1, h2, h3, h4, h5⟩ := h
  refine ⟨a, cap, h1, h2, h3, h4, fun j c zs hj => ?_⟩
  obtain ⟨b, off, u, e, hlt, hc, hu, hz⟩ := h5 j c zs hj
  exact ⟨b, off, u, e, hlt, by rw [hb.cell (p := ⟨b, off + j * 2, none⟩) (cell_blk _ _ _ hc)]; exact hc, by rw [hb.cell (p := ⟨b, off + j * 2 + 1, none⟩) (cell_blk _ _ _ hu)]; exact hu, hz.below hb⟩
theorem LiesSg.mono {w : World} {hi h2 : Nat} {v : Value} {cs : List (Int × List Int)} (h : LiesSg w hi v cs) (hh : hi ≤ h2) : LiesSg w h2 v cs := by
  obtain ⟨a, cap, h1, h2', h3, h4, h5⟩ := h
  refine ⟨a, cap, h1, h2', h3, h4, fun j c zs hj => ?_⟩
  obtain ⟨b, off, u, e, hlt, hc, hu, hz⟩ := h5 j c zs hj
  exact ⟨b, off, u, e, by omega, hc, hu, hz.mono (Nat.le_refl _) hh⟩
theorem LiesSg.len {w : World} {hi : Nat} {v : Value} {cs : List (Int × List Int)} (h : LiesSg w hi v cs) : ∃ a cap, v = .slice a cs.length cap ∧ cs.length ≤ cap ∧ cap ≤ maxLen := by
  obtain ⟨a, cap, h1, h2, h3, _⟩ := h
  exact ⟨a, cap, h1, h2, h3⟩
/-- .. with something in it: its address. -/
theorem LiesSg.addr {w : World} {hi : Nat} {v : Value} {cs : List (Int × List Int)} (h : LiesSg w hi v cs) (h0 : 0 < cs.length) : ∃ b off cap, v = .slice (some ⟨b, off, none⟩) cs.length cap ∧ cs.length ≤ cap ∧ cap ≤ maxLen ∧ b < w.heap.size ∧
    ∀ (j : Nat) c zs, cs[j]? = some (c, zs) → ∃ u, w.cell? ⟨b, off + j * 2, none⟩ = some (.int .i64 c) ∧ w.cell? ⟨b, off + j * 2 + 1, none⟩ = some u ∧ Lies w 0 hi u zs := by
  obtain ⟨a, cap, h1, h2, h3, _, h5⟩ := h
  obtain ⟨b, off, u, e, _, hc, _, _⟩ := h5 0 (cs[0]'h0).1 (cs[0]'h0).2 (List.getElem?_eq_getElem h0)
  subst e
  refine ⟨b, off, cap, h1, h2, h3, cell_blk _ _ _ hc, fun j c zs hj => ?_⟩
  obtain ⟨b2, off2, u2, e, _, hc2, hu2, hz2⟩ := h5 j c zs hj
  injection e with e
  injection e with e1 e2
  subst e1; subst e2
  exact ⟨u2, hc2, hu2, hz2⟩
set_option maxHeartbeats 1600000 in
theorem eqSg_yes (v u : Value) (cs : List (Int × List Int)) (w : World) (h1 h2 : Nat) (hv : LiesSg w h1 v cs) (hu : LiesSg w h2 u cs) (hn : cs.length ≤ 1048576) : Calls Try.prog 11 #[v, u] w (Gives (.bool true) w) := by
  have HV := hidH hv
  have HU := hidH hu
  obtain ⟨a, cap, rfl, hlc, hcm⟩ := hv.len
  obtain ⟨a2, cap2, rfl, hlc2, hcm2⟩ := hu.len
  unfold maxLen at hcm hcm2
  clear hv hu
  go_enter Try.func11, Try.ntmps11
  go_wp2
  go_loopw [5] (fun i wr => ∃ k : Nat, k ≤ cs.length ∧ i = .int .i64 k ∧ Below w.heap.size w wr) (fun i _ => cs.length - (intOf i).toNat)
  case atStart => exact ⟨0, Nat.zero_le _, rfl, Below.refl _ _⟩
  case round =>
    obtain ⟨k, hk, rfl, hb⟩ := hrel
    have Hb := hidH hb
    clear hb
    by_cases hlt : k < cs.length
    · obtain ⟨b, off, cc1, e, _, _, _, hcl⟩ := HV.out.addr (by omega)
      injection e with e1 e2 e3
      subst e1; subst e3
      obtain ⟨b2, off2, cc2, e, _, _, _, hcl2⟩ := HU.out.addr (by omega)
      injection e with e1 e2 e3
      subst e1; subst e3
      obtain ⟨x, hx⟩ : ∃ x, cs[k]? = some x := ⟨cs[k], List.getElem?_eq_getElem hlt⟩
      obtain ⟨c, zs⟩ := x
      obtain ⟨p, q0, q1, q2⟩ := hcl k c zs hx
      obtain ⟨p2, r0, r1, r2⟩ := hcl2 k c zs hx
      have c0 : wr.cell? ⟨b, off + k * 2, none⟩ = some (.int .i64 c) := by rw [Hb.out.cell (p := ⟨b, off + k * 2, none⟩) (cell_blk _ _ _ q0)]; exact q0
      have c1 : wr.cell? ⟨b, off + k * 2 + 1, none⟩ = some p := by rw [Hb.out.cell (p := ⟨b, off + k * 2 + 1, none⟩) (cell_blk _ _ _ q1)]; exact q1
      have d0 : wr.cell? ⟨b2, off2 + k * 2, none⟩ = some (.int .i64 c) := by rw [Hb.out.cell (p := ⟨b2, off2 + k * 2, none⟩) (cell_blk _ _ _ r0)]; exact r0
      have d1 : wr.cell? ⟨b2, off2 + k * 2 + 1, none⟩ = some p2 := by rw [Hb.out.cell (p := ⟨b2, off2 + k * 2 + 1, none⟩) (cell_blk _ _ _ r1)]; exact r1
      have HP := hidH (q2.below Hb.out)
      have HP2 := hidH (r2.below Hb.out)
      have HE := hidH (fun W (hb : Below wr.heap.size wr W) => eqSeg_yes c p p2 zs W _ _ _ _ (HP.out.below hb) (HP2.out.below hb))
      have HBc := hidH (Below.refl wr.heap.size wr)
      clear hcl hcl2 q0 q1 q2 r0 r1 r2 hx
      go_wp2_with fail
      go_region_with ((go_at_call 33; (with_reducible refine (HE.out _ (by first | exact HBc.out | exact HBc.out.drew)).mono ?_); rintro e wd ⟨rfl, hbd⟩; (have HBc := hidH (Below.trans ((Below.refl wr.heap.size wr).drew) (hbd.mono (Nat.le_refl _)))); clear hbd))
      all_goals (
        clear c0 c1 d0 d1
        go_wp2_with fail
        go_roundw
        case rel => exact ⟨k + 1, by omega, by go_num, Hb.out.trans (HBc.out.mono Hb.out.size)⟩
        case measure => simp [intOf]; omega)
    · obtain rfl : k = cs.length := by omega
      go_wp2
      go_ret
      exact ⟨rfl, Hb.out⟩
end Go.Proofs.Ytpkieconbfgbdaa
