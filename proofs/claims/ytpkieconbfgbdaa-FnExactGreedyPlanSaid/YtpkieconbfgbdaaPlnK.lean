/-
  Marks in a row of segments. Condition: not more numbers than the laws let through.
-/
import Derived.Test.YtpkieconbfgbdaaPlnB
import Derived.Test.YtpkieconbfgbdaaSl
namespace Go.Proofs.Ytpkieconbfgbdaa
set_option maxRecDepth 4000
open Go.RowKit
/-- The number of all differences of a row of segments. -/
def lenS (cs : List (Int × List Int)) : Nat := (cs.map fun s => s.2.length).sum
/-- .. and of all numbers in it. -/
def totS (cs : List (Int × List Int)) : Nat := cs.length + lenS cs
theorem lenS_snoc (cs : List (Int × List Int)) (k : Nat) (s : Int × List Int) (h : cs[k]? = some s) : lenS (cs.take (k + 1)) = lenS (cs.take k) + s.2.length := by
  unfold lenS
  rw [List.take_add_one, h, List.map_append, List.sum_append]
  simp
theorem lenS_mem {cs : List (Int × List Int)} {c : Int} {zs : List Int} (h : (c, zs) ∈ cs) : zs.length ≤ lenS cs := by
  induction cs with
  | nil => cases h
  | cons s cs ih =>
    unfold lenS at *
    rw [List.map_cons, List.sum_cons]
    rcases List.mem_cons.1 h with e | e
    · subst e; exact Nat.le_add_right _ _
    · have := ih e; omega
theorem totS_snoc (cs : List (Int × List Int)) (k : Nat) (s : Int × List Int) (h : cs[k]? = some s) : totS (cs.take (k + 1)) = totS (cs.take k) + (1 + s.2.length) := by
  have hk := (List.getElem?_eq_some_iff.1 h).1
  unfold totS
  rw [lenS_snoc cs k s h, List.length_take, List.length_take]
  omega
theorem totS_take (cs : List (Int × List Int)) (k : Nat) : totS (cs.take k) ≤ totS cs := by
  have h : totS cs = totS (cs.take k) + totS (cs.drop k) := by
    have e := List.take_append_drop k cs
    unfold totS lenS
    conv => lhs; rw [← e]
    rw [List.length_append, List.map_append, List.sum_append]
    omega
  omega
/-- The marks of a row of segments from k on. -/
def mkS : List (Int × List Int) → Int → List (Int × List Int)
  | [], _ => []
  | s :: cs, k => (k, upFrom (k + 1) s.2.length) :: mkS cs (k + 1 + s.2.length)
theorem mkS_length (cs : List (Int × List Int)) (k : Int) : (mkS cs k).length = cs.length := by
  induction cs generalizing k with
  | nil => rfl
  | cons s cs ih => simp [mkS, ih]
theorem mkS_at (cs : List (Int × List Int)) (k : Int) (j : Nat) (s : Int × List Int) (h : cs[j]? = some s) : (mkS cs k)[j]? = some (k + totS (cs.take j), upFrom (k + totS (cs.take j) + 1) s.2.length) := by
  induction cs generalizing k j with
  | nil => simp at h
  | cons t cs ih =>
    cases j with
    | zero =>
      have e : t = s := by simpa using h
      subst e
      simp [mkS, totS, lenS]
    | succ j =>
      have h' : cs[j]? = some s := by simpa using h
      have e : k + 1 + (t.2.length : Int) + (totS (cs.take j) : Int) = k + (totS ((t :: cs).take (j + 1)) : Int) := by
        simp only [totS, lenS, List.take_succ_cons, List.length_cons, List.map_cons, List.sum_cons]
        omega
      show (mkS cs (k + 1 + (t.2.length : Int)))[j]? = _
      rw [ih _ j h', e]
def mixS (cs : List (Int × List Int)) (k0 : Int) (k : Nat) : List (Int × List Int) := (mkS cs k0).take k ++ cs.drop k
theorem mixS_length (cs : List (Int × List Int)) (k0 : Int) (k : Nat) (h : k ≤ cs.length) : (mixS cs k0 k).length = cs.length := by
  unfold mixS
  rw [List.length_append, List.length_take, List.length_drop, mkS_length]
  omega
theorem mixS_zero (cs : List (Int × List Int)) (k0 : Int) : mixS cs k0 0 = cs := by simp [mixS]
theorem mixS_all (cs : List (Int × List Int)) (k0 : Int) : mixS cs k0 cs.length = mkS cs k0 := by
  unfold mixS
  rw [List.drop_length, List.append_nil, List.take_of_length_le (by rw [mkS_length]; exact Nat.le_refl _)]
theorem mixS_at (cs : List (Int × List Int)) (k0 : Int) (k : Nat) (h : k < cs.length) : (mixS cs k0 k)[k]? = cs[k]? := by
  unfold mixS
  rw [List.getElem?_append_right (by rw [List.length_take, mkS_length]; omega), List.length_take, mkS_length, Nat.min_eq_left (by omega), Nat.sub_self, List.getElem?_drop, Nat.add_zero]
theorem mixS_next (cs : List (Int × List Int)) (k0 : Int) (k : Nat) (s : Int × List Int) (h : cs[k]? = some s) : (mixS cs k0 k).set k (k0 + totS (cs.take k), upFrom (k0 + totS (cs.take k) + 1) s.2.length) = mixS cs k0 (k + 1) := by
  have hk := (List.getElem?_eq_some_iff.1 h).1
  unfold mixS
  rw [List.set_append_right _ _ (by rw [List.length_take, mkS_length]; omega), List.length_take, mkS_length, Nat.min_eq_left (by omega), Nat.sub_self, List.drop_eq_getElem_cons (by omega), List.set_cons_zero, List.take_add_one, mkS_at cs k0 k s h]
  simp
/-- The segments lie in block b, with rows of their own between the bounds L. -/
def SgAt (w : World) (b : Nat) (L : Nat → Nat) (cs : List (Int × List Int)) : Prop := ∀ (j : Nat) c zs, cs[j]? = some (c, zs) → ∃ u, w.cell? ⟨b, j * 2, none⟩ = some (.int .i64 c) ∧ w.frozen? ⟨b, j * 2, none⟩ = false ∧ w.cell? ⟨b, j * 2 + 1, none⟩ = some u ∧ w.frozen? ⟨b, j * 2 + 1, none⟩ = false ∧ Row w (L j) (L (j + 1)) u zs
theorem RowSg.at {w : World} {lo hi : Nat} {v : Value} {cs : List (Int × List Int)} (h : RowSg w lo hi v cs) (h0 : 0 < cs.length) : ∃ b cap L, v = .slice (some ⟨b, 0, none⟩) cs.length cap ∧ cs.length ≤ cap ∧ cap ≤ maxLen ∧ (∀ j, j < cs.length → L j ≤ L (j + 1)) ∧ lo ≤ L 0 ∧ L cs.length ≤ hi ∧ lo ≤ b ∧ b < hi ∧ b < L 0 ∧ SgAt w b L cs := by
  obtain ⟨a, cap, L, h1, h2, h3, h4, hL, hlo, hhi, h5⟩ := h
  obtain ⟨b, u, e, b1, b2, b3, _⟩ := h5 0 (cs[0]'h0).1 (cs[0]'h0).2 (List.getElem?_eq_getElem h0)
  subst e
  refine ⟨b, cap, L, h1, h2, h3, hL, hlo, hhi, b1, b2, b3, fun j c zs hj => ?_⟩
  obtain ⟨b', u', e, _, _, _, c0, f0, c1, f1, hr⟩ := h5 j c zs hj
  injection e with e
  injection e with e
  subst e
  exact ⟨u', c0, f0, c1, f1, hr⟩
theorem SgAt.row {w : World} {lo hi b n cap : Nat} {L : Nat → Nat} {cs : List (Int × List Int)} (h : SgAt w b L cs) (hn : n = cs.length) (h2 : cs.length ≤ cap) (h3 : cap ≤ maxLen) (hL : ∀ j, j < cs.length → L j ≤ L (j + 1)) (hlo : lo ≤ L 0) (hhi : L cs.length ≤ hi) (b1 : lo ≤ b) (b2 : b < hi) (b3 : b < L 0) : RowSg w lo hi (.slice (some ⟨b, 0, none⟩) n cap) cs :=
  ⟨some ⟨b, 0, none⟩, cap, L, by rw [hn], h2, h3, (fun e => by cases e), hL, hlo, hhi, fun j c zs hj => by
    obtain ⟨u, c0, f0, c1, f1, hr⟩ := h j c zs hj
    exact ⟨b, u, rfl, b1, b2, b3, c0, f0, c1, f1, hr⟩⟩
/-- One segment is written anew: its number, and then its row. -/
theorem SgAt.upd {w w' : World} {b k : Nat} {L : Nat → Nat} {cs : List (Int × List Int)} {c : Int} {zs : List Int} {u : Value} (h : SgAt w b L cs) (hL : ∀ j, j < cs.length → L j ≤ L (j + 1)) (hb : b < L 0) (hk : cs[k]? = some (c, zs)) (hu : w.cell? ⟨b, k * 2 + 1, none⟩ = some u) (d : Int) (ys : List Int)
    (hA : Apart (L k) (L (k + 1)) (w.setCell ⟨b, k * 2, none⟩ (.int .i64 d)) w') (hr : Row w' (L k) (L (k + 1)) u ys) : SgAt w' b L (cs.set k (d, ys)) := by
  intro j c' zs' hj
  have hkl := (List.getElem?_eq_some_iff.1 hk).1
  have hjl : j < cs.length := by have := (List.getElem?_eq_some_iff.1 hj).1; rwa [List.length_set] at this
  obtain ⟨u0, k0, kf, k1, kf1, kr⟩ := h k c zs hk
  have hbw : b < w.heap.size := cell_blk _ _ _ k0
  have hm := mono_to hL
  have hbk : b < L k := Nat.lt_of_lt_of_le hb (hm 0 k (Nat.zero_le _) (by omega))
  have hblk := hA.block b (by simpa using hbw) (.inl hbk)
  have hcell (i : Nat) : w'.cell? ⟨b, i, none⟩ = (w.setCell ⟨b, k * 2, none⟩ (.int .i64 d)).cell? ⟨b, i, none⟩ := World.cell?_of_block (a := ⟨b, i, none⟩) hblk
  have hfro (i : Nat) : w'.frozen? ⟨b, i, none⟩ = (w.setCell ⟨b, k * 2, none⟩ (.int .i64 d)).frozen? ⟨b, i, none⟩ := World.frozen?_of_block (a := ⟨b, i, none⟩) hblk
  by_cases e : j = k
  · subst e
    rw [List.getElem?_set_self hkl] at hj
    injection hj with hj
    injection hj with e1 e2
    subst e1; subst e2
    refine ⟨u, ?_, ?_, ?_, ?_, hr⟩
    · rw [hcell]; exact World.cell?_setCell_same _ _ _ k0
    · rw [hfro]; simpa using kf
    · rw [hcell, World.cell?_setCell_other _ _ _ _ (by intro h; injection h; omega)]; exact hu
    · rw [hfro]; simpa using kf1
  · rw [List.getElem?_set_ne (fun h => e h.symm)] at hj
    obtain ⟨u', g0, gf, g1, gf1, gr⟩ := h j c' zs' hj
    refine ⟨u', ?_, ?_, ?_, ?_, ?_⟩
    · rw [hcell, World.cell?_setCell_other _ _ _ _ (by intro h; injection h; omega)]; exact g0
    · rw [hfro]; simpa using gf
    · rw [hcell, World.cell?_setCell_other _ _ _ _ (by intro h; injection h; omega)]; exact g1
    · rw [hfro]; simpa using gf1
    · have h1 : L 0 ≤ L j := hm 0 j (Nat.zero_le _) (by omega)
      refine (gr.apart (Apart.of_onto (lo := b) (hi := b + 1) (Onto.setCell b (k * 2) w _) (Nat.le_refl _) (Nat.lt_succ_self _)) (.inr (by omega))).apart hA ?_
      rcases Nat.lt_or_gt_of_ne e with h | h
      · exact .inl (hm (j + 1) k (by omega) (by omega))
      · exact .inr (hm (k + 1) j (by omega) (by omega))
set_option maxHeartbeats 1600000 in
theorem markSg_any (v : Value) (cs : List (Int × List Int)) (k0 : Int) (w : World) (lo hi : Nat) (hv : RowSg w lo hi v cs) (hk1 : 0 ≤ k0) (hT : k0 + totS cs ≤ 4194304) (hS : totS cs ≤ 1048576) : Calls Try.prog 14 #[v, .int .i64 k0] w fun e w' => e = .returned (.int .i64 (k0 + totS cs)) ∧ RowSg w' lo hi v (mkS cs k0) ∧ Apart lo hi w w' := by
  by_cases h0 : cs.length = 0
  · obtain rfl : cs = [] := List.eq_nil_of_length_eq_zero h0
    obtain ⟨a, cap, L, rfl, hlc, hcm, hnil, hL, hlo, hhi, _⟩ := hv
    have HR := hidH (fun W => RowSg.nil W lo hi a cap hcm hnil (Nat.le_trans hlo hhi))
    unfold maxLen at hcm
    clear hnil hL
    go_enter Try.func14, Try.ntmps14
    go_wp2_with fail
    go_loopw [1, 5] (fun m i wr => i = .int .i64 0 ∧ m = .int .i64 k0 ∧ w = wr) (fun _ _ _ => 0)
    case atStart => exact ⟨rfl, rfl, rfl⟩
    case round =>
      obtain ⟨rfl, rfl, rfl⟩ := hrel
      go_wp2_with fail
      go_ret
      exact ⟨by simp [totS, lenS], HR.out _, Apart.of_below (Below.refl _ _)⟩
  · obtain ⟨b, cap, L, rfl, hlc, hcm, hL, hlo, hhi, b1, b2, b3, hat⟩ := hv.at (by omega)
    have HL := hidH hL
    have HAT := hidH hat
    have HCM := hidH hcm
    unfold maxLen at hcm
    have HTT := hidH (fun k => totS_take cs k)
    clear hv hL hat h0
    generalize hnn : cs.length = n at *
    have HN := hidH hnn
    clear hnn
    go_enter Try.func14, Try.ntmps14
    go_wp2_with fail
    go_loopw [1, 5] (fun m i wr => ∃ k : Nat, k ≤ n ∧ i = .int .i64 k ∧ m = .int .i64 (k0 + totS (cs.take k)) ∧ SgAt wr b L (mixS cs k0 k) ∧ Apart lo hi w wr) (fun _ i _ => n - (intOf i).toNat)
    case atStart => exact ⟨0, Nat.zero_le _, rfl, by simp [totS, lenS], by rw [mixS_zero]; exact HAT.out, Apart.of_below (Below.refl _ _)⟩
    case round =>
      obtain ⟨k, hk, rfl, rfl, hs, ha⟩ := hrel
      have HS := hidH hs
      have HA := hidH ha
      clear hs ha
      by_cases hlt : k < n
      · obtain ⟨x, hx⟩ : ∃ x, cs[k]? = some x := ⟨cs[k]'(by rw [HN.out]; exact hlt), List.getElem?_eq_getElem _⟩
        obtain ⟨c, zs⟩ := x
        have hmk : (mixS cs k0 k)[k]? = some (c, zs) := by rw [mixS_at cs k0 k (by rw [HN.out]; exact hlt)]; exact hx
        obtain ⟨u, c0, f0, c1, f1, hr⟩ := HS.out k c zs hmk
        obtain ⟨ua, uc, rfl⟩ := hr.some
        have HMK := hidH hmk
        have HX := hidH hx
        have HTN := hidH (totS_snoc cs k (c, zs) hx)
        have htt : totS (cs.take (k + 1)) ≤ totS cs := HTT.out (k + 1)
        rw [HTN.out] at htt
        have htt2 : totS (cs.take k) + (1 + zs.length) ≤ totS cs := htt
        have HNX := hidH (mixS_next cs k0 k (c, zs) hx)
        have hlc1 : (mixS cs k0 k).length = n := by rw [mixS_length cs k0 k (by rw [HN.out]; omega), HN.out]
        have HLm := hidH (fun j (hj : j < (mixS cs k0 k).length) => HL.out j (by rw [hlc1] at hj; exact hj))
        have hkn := mono_to HL.out (k + 1) n (by omega) (Nat.le_refl _)
        have hk0 := mono_to HL.out 0 k (Nat.zero_le _) (by omega)
        have HBL := hidH (show b < L k ∧ lo ≤ L k ∧ L (k + 1) ≤ hi by omega)
        generalize hM : k0 + (totS (cs.take k) : Int) = M at *
        have hM1 : 0 ≤ M := by omega
        have hzl : zs.length ≤ 1048576 := by omega
        have hM2 : M + 1 + zs.length ≤ 4194304 := by omega
        have HMM := hidH hM
        have HR1 := hidH (hr.apart (Apart.of_onto (lo := b) (hi := b + 1) (Onto.setCell b (k * 2) wr (.int .i64 M)) (Nat.le_refl _) (Nat.lt_succ_self _)) (.inr (by omega)))
        have c1' : (wr.setCell ⟨b, k * 2, none⟩ (.int .i64 M)).cell? ⟨b, k * 2 + 1, none⟩ = some (.slice ua zs.length uc) := by rw [World.cell?_setCell_other _ _ _ _ (by intro h; injection h; omega)]; exact c1
        have HC1 := hidH c1
        clear hr hmk hx hM htt htt2 hkn hk0 hlc1 c1
        go_wp2_with fail
        refine (mark_any _ zs (M + 1) _ _ _ HR1.out (by omega) (by omega) (by omega)).mono ?_; rintro e w5 ⟨rfl, hr, ha⟩
        have HU := hidH (HS.out.upd HLm.out b3 HMK.out HC1.out M (upFrom (M + 1) zs.length) ha hr)
        have HAA := hidH (HA.out.trans ((Apart.of_onto (lo := lo) (hi := hi) (Onto.setCell b (k * 2) wr (.int .i64 M)) b1 b2).trans ⟨ha.os, ha.tape, ha.output, ha.size, fun q hq hd => ha.block q hq (by have := HBL.out; omega)⟩))
        clear hr ha c0 f0 f1 c1'
        go_wp2_with fail
        go_roundw
        case rel =>
          refine ⟨k + 1, by omega, by go_num, ?_, ?_, HAA.out⟩
          · rw [HTN.out]; have := HMM.out; congr 1; show M + 1 + (zs.length : Int) = k0 + ((totS (cs.take k) + (1 + zs.length) : Nat) : Int); omega
          · rw [← HNX.out]; exact HU.out
        case measure => simp [intOf]; omega
      · obtain rfl : k = n := by omega
        have hcs : cs.take k = cs := by rw [← HN.out, List.take_length]
        have HE := hidH (show k0 + (totS (cs.take k) : Int) = k0 + (totS cs : Int) by rw [hcs])
        have hs := HS.out
        rw [show mixS cs k0 k = mkS cs k0 by rw [← HN.out]; exact mixS_all cs k0] at hs
        have HS2 := hidH hs
        clear hs hcs HS
        go_wp2_with fail
        go_ret
        refine ⟨by rw [← HE.out]; rfl, HS2.out.row (by rw [mkS_length, HN.out]) (by rw [mkS_length, HN.out]; exact hlc) HCM.out (by rw [mkS_length, HN.out]; exact HL.out) hlo (by rw [mkS_length, HN.out]; exact hhi) b1 b2 b3, HA.out⟩
set_option maxHeartbeats 800000 in
theorem szSgT_any (v : Value) (cs : List (Int × List Int)) (left : Nat) (w : World) (h1 : Nat) (hv : LiesSg w h1 v cs) (hl : left ≤ 1048576) : Calls Try.prog 20 #[v, .int .i64 left] w fun e w' => ∃ r : Int, e = .returned (.int .i64 r) ∧ (r = -1 ∨ (∃ m : Nat, r = m ∧ m ≤ left) ∧ totS cs ≤ left) ∧ Below w.heap.size w w' := by
  have HV := hidH hv
  obtain ⟨a, cap, rfl, hlc, hcm⟩ := hv.len
  unfold maxLen at hcm
  clear hv
  by_cases hbig : left < cs.length
  · have hd : decide ((left : Int) - (cs.length : Int) < 0) = true := decide_eq_true (by omega)
    go_enter Try.func20, Try.ntmps20
    go_wp2_with fail
    go_ret
    exact ⟨_, rfl, .inl rfl, Below.refl _ _⟩
  · go_enter Try.func20, Try.ntmps20
    go_wp2_with fail
    go_loopw [1, 5] (fun m i wr => ∃ k n : Nat, k ≤ cs.length ∧ i = .int .i64 k ∧ m = .int .i64 n ∧ n + lenS (cs.take k) + cs.length ≤ left ∧ Below w.heap.size w wr) (fun _ i _ => cs.length - (intOf i).toNat)
    case atStart => exact ⟨0, left - cs.length, Nat.zero_le _, rfl, by go_num, by simp [lenS]; omega, Below.refl _ _⟩
    case round =>
      obtain ⟨k, n, hk, rfl, rfl, hn, hb⟩ := hrel
      have HB := hidH hb
      clear hb
      by_cases hlt : k < cs.length
      · obtain ⟨b, off, cc1, e, _, _, _, hcl⟩ := HV.out.addr (by omega)
        injection e with e1 e2 e3
        subst e1; subst e3
        obtain ⟨x, hx⟩ : ∃ x, cs[k]? = some x := ⟨cs[k], List.getElem?_eq_getElem hlt⟩
        obtain ⟨c, zs⟩ := x
        obtain ⟨p, q0, q1, q2⟩ := hcl k c zs hx
        have c0 : wr.cell? ⟨b, off + k * 2, none⟩ = some (.int .i64 c) := by rw [HB.out.cell (p := ⟨b, off + k * 2, none⟩) (cell_blk _ _ _ q0)]; exact q0
        have c1 : wr.cell? ⟨b, off + k * 2 + 1, none⟩ = some p := by rw [HB.out.cell (p := ⟨b, off + k * 2 + 1, none⟩) (cell_blk _ _ _ q1)]; exact q1
        obtain ⟨pa, pc, rfl, pl1, pl2, _⟩ := q2
        have HS := hidH (fun W => szSeg_any c pa zs.length pc W n pl1 pl2 (by omega))
        have HX := hidH (show lenS (cs.take (k + 1)) = lenS (cs.take k) + zs.length from lenS_snoc cs k (c, zs) hx)
        clear hcl q0 q1 hx
        unfold maxLen at pl2
        go_wp2_with fail
        refine (HS.out _).mono ?_; rintro e w1 ⟨hr, hb⟩
        have HB1 := hidH (HB.out.trans (hb.mono HB.out.size))
        clear hb c0 c1
        rcases hr with ⟨hzn, rfl⟩ | rfl
        · go_wp2_with fail
          go_roundw
          case rel => exact ⟨k + 1, n - zs.length, by omega, by go_num, rfl, by rw [HX.out]; omega, HB1.out⟩
          case measure => simp [intOf]; omega
        · go_wp2_with fail
          go_ret
          exact ⟨_, rfl, .inl rfl, HB1.out⟩
      · obtain rfl : k = cs.length := by omega
        rw [List.take_length] at hn
        have HT := hidH (show totS cs ≤ left by unfold totS; omega)
        have hnl : n ≤ left := by omega
        clear hn
        go_wp2_with fail
        go_ret
        exact ⟨_, rfl, .inr ⟨⟨n, rfl, hnl⟩, HT.out⟩, HB.out⟩
end Go.Proofs.Ytpkieconbfgbdaa
