/-
  Rows of segments, each with a row of its own, wherever they lie: marks. Condition: not more numbers than the laws let through.
-/
import Derived.Test.YtpkieconbfgbdaaPlnK
namespace Go.Proofs.Ytpkieconbfgbdaa
set_option maxRecDepth 4000
open Go.RowKit
/-- The slice v is a row of the call's own that holds these segments, each with a row of its own, apart from the others and from the segments themselves. -/
def ApSg (w : World) (lo hi : Nat) (v : Value) (cs : List (Int × List Int)) : Prop := ∃ (a : Option Addr) (cap : Nat) (L H : Nat → Nat), v = .slice a cs.length cap ∧ cs.length ≤ cap ∧ cap ≤ maxLen ∧ (a = none → cap = 0) ∧ (∀ i j, i < j → j < cs.length → H i ≤ L j) ∧
  ∀ (j : Nat) c zs, cs[j]? = some (c, zs) → ∃ b u, a = some ⟨b, 0, none⟩ ∧ lo ≤ b ∧ b < hi ∧ (b < L j ∨ H j ≤ b) ∧ lo ≤ L j ∧ H j ≤ hi ∧ w.cell? ⟨b, j * 2, none⟩ = some (.int .i64 c) ∧ w.frozen? ⟨b, j * 2, none⟩ = false ∧ w.cell? ⟨b, j * 2 + 1, none⟩ = some u ∧ w.frozen? ⟨b, j * 2 + 1, none⟩ = false ∧ Row w (L j) (H j) u zs
theorem ApSg.lies {w : World} {lo hi : Nat} {v : Value} {cs : List (Int × List Int)} (h : ApSg w lo hi v cs) : LiesSg w hi v cs := by
  obtain ⟨a, cap, L, H, h1, h2, h3, h4, hL, h5⟩ := h
  refine ⟨a, cap, h1, h2, h3, h4, fun j c zs hj => ?_⟩
  obtain ⟨b, u, e, b1, b2, b3, b4, b5, c0, f0, c1, f1, hr⟩ := h5 j c zs hj
  exact ⟨b, 0, u, e, b2, by rw [Nat.zero_add]; exact c0, by rw [Nat.zero_add]; exact c1, hr.lies.mono (Nat.zero_le _) b5⟩
theorem ApSg.apart {w w' : World} {lo hi l h : Nat} {v : Value} {cs : List (Int × List Int)} (X : ApSg w l h v cs) (hA : Apart lo hi w w') (hd : h ≤ lo ∨ hi ≤ l) : ApSg w' l h v cs := by
  obtain ⟨a, cap, L, H, h1, h2, h3, h4, hL, h5⟩ := X
  refine ⟨a, cap, L, H, h1, h2, h3, h4, hL, fun j c zs hj => ?_⟩
  obtain ⟨b, u, e, b1, b2, b3, b4, b5, c0, f0, c1, f1, hr⟩ := h5 j c zs hj
  have hb := cell_blk _ _ _ c0
  have hk := hA.block b hb (by omega)
  exact ⟨b, u, e, b1, b2, b3, b4, b5, by rw [World.cell?_of_block (w := w) hk]; exact c0, by rw [World.frozen?_of_block (w := w) hk]; exact f0, by rw [World.cell?_of_block (w := w) hk]; exact c1, by rw [World.frozen?_of_block (w := w) hk]; exact f1, hr.apart hA (by omega)⟩
theorem ApSg.below {w w' : World} {l h : Nat} {v : Value} {cs : List (Int × List Int)} (H : ApSg w l h v cs) (hb : Below w.heap.size w w') : ApSg w' l h v cs := H.apart (lo := h) (hi := h) (Apart.of_below hb) (.inl (Nat.le_refl _))
theorem ApSg.mono {w : World} {l h l2 h2 : Nat} {v : Value} {cs : List (Int × List Int)} (X : ApSg w l h v cs) (h1 : l2 ≤ l) (h3 : h ≤ h2) : ApSg w l2 h2 v cs := by
  obtain ⟨a, cap, L, H, e1, e2, e3, e4, hL, h5⟩ := X
  refine ⟨a, cap, L, H, e1, e2, e3, e4, hL, fun j c zs hj => ?_⟩
  obtain ⟨b, u, e, b1, b2, b3, b4, b5, r⟩ := h5 j c zs hj
  exact ⟨b, u, e, by omega, by omega, b3, by omega, by omega, r⟩
theorem ApSg.nil (w : World) (lo hi : Nat) (a : Option Addr) (cap : Nat) (hc : cap ≤ maxLen) (ha : a = none → cap = 0) : ApSg w lo hi (.slice a 0 cap) [] := ⟨a, cap, fun _ => 0, fun _ => 0, rfl, Nat.zero_le _, hc, ha, fun _ _ _ _ => Nat.le_refl _, fun _ _ _ h => by simp at h⟩
theorem ApSg.form {w : World} {lo hi : Nat} {v : Value} {cs : List (Int × List Int)} (h : ApSg w lo hi v cs) : ∃ a cap, v = .slice a cs.length cap ∧ cs.length ≤ cap ∧ cap ≤ maxLen := by
  obtain ⟨a, cap, L, H, h1, h2, h3, _⟩ := h
  exact ⟨a, cap, h1, h2, h3⟩
/-- .. with an outer row before all others. -/
theorem RowSg.ap {w : World} {lo hi : Nat} {v : Value} {cs : List (Int × List Int)} (h : RowSg w lo hi v cs) : ApSg w lo hi v cs := by
  obtain ⟨a, cap, L, h1, h2, h3, h4, hL, hlo, hhi, h5⟩ := h
  have hm := mono_to hL
  refine ⟨a, cap, L, fun j => L (j + 1), h1, h2, h3, h4, fun i j hij hj => hm (i + 1) j hij (by omega), fun j c zs hj => ?_⟩
  obtain ⟨b, u, e, b1, b2, b3, r⟩ := h5 j c zs hj
  have hjl := (List.getElem?_eq_some_iff.1 hj).1
  exact ⟨b, u, e, b1, b2, .inl (Nat.lt_of_lt_of_le b3 (hm 0 j (Nat.zero_le _) (by omega))), Nat.le_trans hlo (hm 0 j (Nat.zero_le _) (by omega)), Nat.le_trans (hm (j + 1) cs.length (by omega) (Nat.le_refl _)) hhi, r⟩
/-- A call that answers a new row of segments, and a truth. -/
def NewApB (cs : List (Int × List Int)) (t : Bool) (w : World) (e : Ending) (w' : World) : Prop := ∃ v, e = .returned (.tuple #[v, .bool t]) ∧ ApSg w' w.heap.size w'.heap.size v cs ∧ Below w.heap.size w w'
/-- The segments lie in block b, with rows of their own. -/
def SgA2 (w : World) (lo hi b : Nat) (L H : Nat → Nat) (cs : List (Int × List Int)) : Prop := ∀ (j : Nat) c zs, cs[j]? = some (c, zs) → ∃ u, (b < L j ∨ H j ≤ b) ∧ lo ≤ L j ∧ H j ≤ hi ∧ w.cell? ⟨b, j * 2, none⟩ = some (.int .i64 c) ∧ w.frozen? ⟨b, j * 2, none⟩ = false ∧ w.cell? ⟨b, j * 2 + 1, none⟩ = some u ∧ w.frozen? ⟨b, j * 2 + 1, none⟩ = false ∧ Row w (L j) (H j) u zs
theorem ApSg.at {w : World} {lo hi : Nat} {v : Value} {cs : List (Int × List Int)} (h : ApSg w lo hi v cs) (h0 : 0 < cs.length) : ∃ b cap L H, v = .slice (some ⟨b, 0, none⟩) cs.length cap ∧ cs.length ≤ cap ∧ cap ≤ maxLen ∧ (∀ i j, i < j → j < cs.length → H i ≤ L j) ∧ lo ≤ b ∧ b < hi ∧ SgA2 w lo hi b L H cs := by
  obtain ⟨a, cap, L, H, h1, h2, h3, h4, hL, h5⟩ := h
  obtain ⟨b, u, e, b1, b2, b3, _⟩ := h5 0 (cs[0]'h0).1 (cs[0]'h0).2 (List.getElem?_eq_getElem h0)
  subst e
  refine ⟨b, cap, L, H, h1, h2, h3, hL, b1, b2, fun j c zs hj => ?_⟩
  obtain ⟨b', u', e, _, _, r1, r2, r3, c0, f0, c1, f1, hr⟩ := h5 j c zs hj
  injection e with e
  injection e with e
  subst e
  exact ⟨u', r1, r2, r3, c0, f0, c1, f1, hr⟩
theorem SgA2.row {w : World} {lo hi b n cap : Nat} {L H : Nat → Nat} {cs : List (Int × List Int)} (h : SgA2 w lo hi b L H cs) (hn : n = cs.length) (h2 : cs.length ≤ cap) (h3 : cap ≤ maxLen) (hL : ∀ i j, i < j → j < cs.length → H i ≤ L j) (b1 : lo ≤ b) (b2 : b < hi) : ApSg w lo hi (.slice (some ⟨b, 0, none⟩) n cap) cs :=
  ⟨some ⟨b, 0, none⟩, cap, L, H, by rw [hn], h2, h3, (fun e => by cases e), hL, fun j c zs hj => by
    obtain ⟨u, r1, r2, r3, c0, f0, c1, f1, hr⟩ := h j c zs hj
    exact ⟨b, u, rfl, b1, b2, r1, r2, r3, c0, f0, c1, f1, hr⟩⟩
/-- One segment is written anew: its number, and then its row. -/
theorem SgA2.upd {w w' : World} {lo hi b k : Nat} {L H : Nat → Nat} {cs : List (Int × List Int)} {c : Int} {zs : List Int} {u : Value} (h : SgA2 w lo hi b L H cs) (hL : ∀ i j, i < j → j < cs.length → H i ≤ L j) (hk : cs[k]? = some (c, zs)) (hu : w.cell? ⟨b, k * 2 + 1, none⟩ = some u) (d : Int) (ys : List Int)
    (hA : Apart (L k) (H k) (w.setCell ⟨b, k * 2, none⟩ (.int .i64 d)) w') (hr : Row w' (L k) (H k) u ys) : SgA2 w' lo hi b L H (cs.set k (d, ys)) := by
  intro j c' zs' hj
  have hkl := (List.getElem?_eq_some_iff.1 hk).1
  have hjl : j < cs.length := by have := (List.getElem?_eq_some_iff.1 hj).1; rwa [List.length_set] at this
  obtain ⟨u0, r1, r2, r3, k0, kf, k1, kf1, kr⟩ := h k c zs hk
  have hbw : b < w.heap.size := cell_blk _ _ _ k0
  have hblk := hA.block b (by simpa using hbw) (by omega)
  have hcell (i : Nat) : w'.cell? ⟨b, i, none⟩ = (w.setCell ⟨b, k * 2, none⟩ (.int .i64 d)).cell? ⟨b, i, none⟩ := World.cell?_of_block (a := ⟨b, i, none⟩) hblk
  have hfro (i : Nat) : w'.frozen? ⟨b, i, none⟩ = (w.setCell ⟨b, k * 2, none⟩ (.int .i64 d)).frozen? ⟨b, i, none⟩ := World.frozen?_of_block (a := ⟨b, i, none⟩) hblk
  by_cases e : j = k
  · subst e
    rw [List.getElem?_set_self hkl] at hj
    injection hj with hj
    injection hj with e1 e2
    subst e1; subst e2
    refine ⟨u, r1, r2, r3, ?_, ?_, ?_, ?_, hr⟩
    · rw [hcell]; exact World.cell?_setCell_same _ _ _ k0
    · rw [hfro]; simpa using kf
    · rw [hcell, World.cell?_setCell_other _ _ _ _ (by intro h; injection h; omega)]; exact hu
    · rw [hfro]; simpa using kf1
  · rw [List.getElem?_set_ne (fun h => e h.symm)] at hj
    obtain ⟨u', s1, s2, s3, g0, gf, g1, gf1, gr⟩ := h j c' zs' hj
    refine ⟨u', s1, s2, s3, ?_, ?_, ?_, ?_, ?_⟩
    · rw [hcell, World.cell?_setCell_other _ _ _ _ (by intro h; injection h; omega)]; exact g0
    · rw [hfro]; simpa using gf
    · rw [hcell, World.cell?_setCell_other _ _ _ _ (by intro h; injection h; omega)]; exact g1
    · rw [hfro]; simpa using gf1
    · refine (gr.apart (Apart.of_onto (lo := b) (hi := b + 1) (Onto.setCell b (k * 2) w _) (Nat.le_refl _) (Nat.lt_succ_self _)) (by omega)).apart hA ?_
      rcases Nat.lt_or_gt_of_ne e with h | h
      · exact .inl (hL j k h hkl)
      · exact .inr (hL k j h hjl)
set_option maxHeartbeats 1600000 in
theorem markAp_any (v : Value) (cs : List (Int × List Int)) (k0 : Int) (w : World) (lo hi : Nat) (hv : ApSg w lo hi v cs) (hk1 : 0 ≤ k0) (hT : k0 + totS cs ≤ 4194304) (hS : totS cs ≤ 1048576) : Calls Try.prog 14 #[v, .int .i64 k0] w fun e w' => e = .returned (.int .i64 (k0 + totS cs)) ∧ ApSg w' lo hi v (mkS cs k0) ∧ Apart lo hi w w' := by
  by_cases h0 : cs.length = 0
  · obtain rfl : cs = [] := List.eq_nil_of_length_eq_zero h0
    obtain ⟨a, cap, L, H, rfl, hlc, hcm, hnil, hL, _⟩ := hv
    have HR := hidH (fun W => ApSg.nil W lo hi a cap hcm hnil)
    unfold maxLen at hcm
    clear hnil hL
    go_enter Try.func14, Try.ntmps14
    go_wp2_with fail
    go_loopw [1, 5] (fun m i wr => i = .int .i64 0 ∧ m = .int .i64 k0 ∧ w = wr) (fun _ _ _ => 0)
    case atStart => exact ⟨rfl, rfl, rfl⟩
    case round =>
      obtain ⟨rfl, rfl, rfl⟩ := hrel
      go_wp2_with fail
      go_ret
      exact ⟨by simp [totS, lenS], HR.out _, Apart.of_below (Below.refl _ _)⟩
  · obtain ⟨b, cap, L, H, rfl, hlc, hcm, hL, b1, b2, hat⟩ := hv.at (by omega)
    have HL := hidH hL
    have HAT := hidH hat
    have HCM := hidH hcm
    unfold maxLen at hcm
    have HTT := hidH (fun k => totS_take cs k)
    clear hv hL hat h0
    generalize hnn : cs.length = n at *
    have HN := hidH hnn
    clear hnn
    go_enter Try.func14, Try.ntmps14
    go_wp2_with fail
    go_loopw [1, 5] (fun m i wr => ∃ k : Nat, k ≤ n ∧ i = .int .i64 k ∧ m = .int .i64 (k0 + totS (cs.take k)) ∧ SgA2 wr lo hi b L H (mixS cs k0 k) ∧ Apart lo hi w wr) (fun _ i _ => n - (intOf i).toNat)
    case atStart => exact ⟨0, Nat.zero_le _, rfl, by simp [totS, lenS], by rw [mixS_zero]; exact HAT.out, Apart.of_below (Below.refl _ _)⟩
    case round =>
      obtain ⟨k, hk, rfl, rfl, hs, ha⟩ := hrel
      have HS := hidH hs
      have HA := hidH ha
      clear hs ha
      by_cases hlt : k < n
      · obtain ⟨x, hx⟩ : ∃ x, cs[k]? = some x := ⟨cs[k]'(by rw [HN.out]; exact hlt), List.getElem?_eq_getElem _⟩
        obtain ⟨c, zs⟩ := x
        have hmk : (mixS cs k0 k)[k]? = some (c, zs) := by rw [mixS_at cs k0 k (by rw [HN.out]; exact hlt)]; exact hx
        obtain ⟨u, r1, r2, r3, c0, f0, c1, f1, hr⟩ := HS.out k c zs hmk
        obtain ⟨ua, uc, rfl⟩ := hr.some
        have HMK := hidH hmk
        have HX := hidH hx
        have HTN := hidH (totS_snoc cs k (c, zs) hx)
        have htt : totS (cs.take (k + 1)) ≤ totS cs := HTT.out (k + 1)
        rw [HTN.out] at htt
        have htt2 : totS (cs.take k) + (1 + zs.length) ≤ totS cs := htt
        have HNX := hidH (mixS_next cs k0 k (c, zs) hx)
        have hlc1 : (mixS cs k0 k).length = n := by rw [mixS_length cs k0 k (by rw [HN.out]; omega), HN.out]
        have HLm := hidH (fun i j (hij : i < j) (hj : j < (mixS cs k0 k).length) => HL.out i j hij (by rw [hlc1] at hj; exact hj))
        have HBL := hidH (show lo ≤ L k ∧ H k ≤ hi from ⟨r2, r3⟩)
        generalize hM : k0 + (totS (cs.take k) : Int) = M at *
        have hM1 : 0 ≤ M := by omega
        have hzl : zs.length ≤ 1048576 := by omega
        have hM2 : M + 1 + zs.length ≤ 4194304 := by omega
        have HMM := hidH hM
        have HR1 := hidH (hr.apart (Apart.of_onto (lo := b) (hi := b + 1) (Onto.setCell b (k * 2) wr (.int .i64 M)) (Nat.le_refl _) (Nat.lt_succ_self _)) (by omega))
        have c1' : (wr.setCell ⟨b, k * 2, none⟩ (.int .i64 M)).cell? ⟨b, k * 2 + 1, none⟩ = some (.slice ua zs.length uc) := by rw [World.cell?_setCell_other _ _ _ _ (by intro h; injection h; omega)]; exact c1
        have HC1 := hidH c1
        clear hr hmk hx hM htt htt2 hlc1 c1 r1 r2 r3
        go_wp2_with fail
        refine (mark_any _ zs (M + 1) _ _ _ HR1.out (by omega) (by omega) (by omega)).mono ?_; rintro e w5 ⟨rfl, hr, ha⟩
        have HU := hidH (HS.out.upd HLm.out HMK.out HC1.out M (upFrom (M + 1) zs.length) ha hr)
        have HAA := hidH (HA.out.trans ((Apart.of_onto (lo := lo) (hi := hi) (Onto.setCell b (k * 2) wr (.int .i64 M)) b1 b2).trans ⟨ha.os, ha.tape, ha.output, ha.size, fun q hq hd => ha.block q hq (by have := HBL.out; omega)⟩))
        clear hr ha c0 f0 f1 c1'
        go_wp2_with fail
        go_roundw
        case rel =>
          refine ⟨k + 1, by omega, by go_num, ?_, ?_, HAA.out⟩
          · rw [HTN.out]; have := HMM.out; congr 1; show M + 1 + (zs.length : Int) = k0 + ((totS (cs.take k) + (1 + zs.length) : Nat) : Int); omega
          · rw [← HNX.out]; exact HU.out
        case measure => simp [intOf]; omega
      · obtain rfl : k = n := by omega
        have hcs : cs.take k = cs := by rw [← HN.out, List.take_length]
        have HE := hidH (show k0 + (totS (cs.take k) : Int) = k0 + (totS cs : Int) by rw [hcs])
        have hs := HS.out
        rw [show mixS cs k0 k = mkS cs k0 by rw [← HN.out]; exact mixS_all cs k0] at hs
        have HS2 := hidH hs
        clear hs hcs HS
        go_wp2_with fail
        go_ret
        refine ⟨by rw [← HE.out]; rfl, HS2.out.row (by rw [mkS_length, HN.out]) (by rw [mkS_length, HN.out]; exact hlc) HCM.out (by rw [mkS_length, HN.out]; exact HL.out) b1 b2, HA.out⟩
set_option maxHeartbeats 1600000 in
theorem heldSg_any (v : Value) (cs : List (Int × List Int)) (k0 : Int) (w : World) (hi : Nat) (hv : LiesSg w hi v (mkS cs k0)) (hk1 : 0 ≤ k0) (hT : k0 + totS cs ≤ 4194304) (hS : totS cs ≤ 1048576) : Calls Try.prog 15 #[v, .int .i64 k0] w (Gives (.int .i64 (k0 + totS cs)) w) := by
  have HV := hidH hv
  obtain ⟨a, cap, rfl, hlc, hcm⟩ := hv.len
  rw [mkS_length] at hlc
  unfold maxLen at hcm
  have HML := hidH (mkS_length cs k0)
  have HTT := hidH (fun k => totS_take cs k)
  rw [HML.out]
  rw [HML.out] at HV
  clear hv
  generalize hnn : cs.length = n at *
  have HN := hidH hnn
  clear hnn
  go_enter Try.func15, Try.ntmps15
  go_wp2_with fail
  go_loopw [1, 5] (fun m i wr => ∃ k : Nat, k ≤ n ∧ i = .int .i64 k ∧ m = .int .i64 (k0 + totS (cs.take k)) ∧ Below w.heap.size w wr) (fun _ i _ => n - (intOf i).toNat)
  case atStart => exact ⟨0, Nat.zero_le _, rfl, by simp [totS, lenS], Below.refl _ _⟩
  case round =>
    obtain ⟨k, hk, rfl, rfl, hb⟩ := hrel
    have HB := hidH hb
    clear hb
    by_cases hlt : k < n
    · obtain ⟨x, hx⟩ : ∃ x, cs[k]? = some x := ⟨cs[k]'(by rw [HN.out]; exact hlt), List.getElem?_eq_getElem _⟩
      obtain ⟨c, zs⟩ := x
      obtain ⟨b, off, cc1, e, _, _, _, hcl⟩ := HV.out.addr (by rw [HML.out]; omega)
      injection e with e1 e2 e3
      subst e1; subst e3
      clear e2
      obtain ⟨p, q0, q1, q2⟩ := hcl k _ _ (mkS_at cs k0 k (c, zs) hx)
      have c0 : wr.cell? ⟨b, off + k * 2, none⟩ = some (.int .i64 (k0 + totS (cs.take k))) := by rw [HB.out.cell (p := ⟨b, off + k * 2, none⟩) (cell_blk _ _ _ q0)]; exact q0
      have c1 : wr.cell? ⟨b, off + k * 2 + 1, none⟩ = some p := by rw [HB.out.cell (p := ⟨b, off + k * 2 + 1, none⟩) (cell_blk _ _ _ q1)]; exact q1
      have hl : Lies wr 0 hi p (upFrom (k0 + totS (cs.take k) + 1) zs.length) := q2.below HB.out
      have HTN := hidH (totS_snoc cs k (c, zs) hx)
      have htt : totS (cs.take (k + 1)) ≤ totS cs := HTT.out (k + 1)
      rw [HTN.out] at htt
      have htt2 : totS (cs.take k) + (1 + zs.length) ≤ totS cs := htt
      generalize hM : k0 + (totS (cs.take k) : Int) = M at *
      have hM1 : 0 ≤ M := by omega
      have hzl : zs.length ≤ 1048576 := by omega
      have hM2 : M + 1 + zs.length ≤ 4194304 := by omega
      have HMM := hidH hM
      have HH := hidH (fun W (hb : Below wr.heap.size wr W) => held_any p (M + 1) zs.length W _ _ (hl.below hb) (by omega) (by omega) hzl)
      have HL := hidH hl
      clear hx hM htt htt2 hl hcl q0 q1 q2
      have hupl := upFrom_length (M + 1) zs.length
      obtain ⟨pa, pc, rfl⟩ := HL.out.some
      rw [hupl] at c1 HH
      clear hupl
      go_wp2_with fail
      refine (HH.out _ (by first | exact Below.refl _ _)).mono ?_; rintro e w5 ⟨rfl, hb⟩
      have HB5 := hidH (bThen HB.out hb)
      clear hb c0 c1
      go_wp2_with fail
      go_roundw
      case rel =>
        refine ⟨k + 1, by omega, by go_num, ?_, HB5.out⟩
        rw [HTN.out]; have := HMM.out; congr 1; show M + 1 + (zs.length : Int) = k0 + ((totS (cs.take k) + (1 + zs.length) : Nat) : Int); omega
      case measure => simp [intOf]; omega
    · obtain rfl : k = n := by omega
      have hcs : cs.take k = cs := by rw [← HN.out, List.take_length]
      have HE := hidH (show k0 + (totS (cs.take k) : Int) = k0 + (totS cs : Int) by rw [hcs])
      clear hcs
      go_wp2_with fail
      go_ret
      exact ⟨by rw [← HE.out]; rfl, HB.out⟩
end Go.Proofs.Ytpkieconbfgbdaa
