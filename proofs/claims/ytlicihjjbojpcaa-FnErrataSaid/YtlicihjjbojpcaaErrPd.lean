/-
  Errata make the right table of the printed one (mathematics), and the laws' comparison of errata. Condition: at most 1000 errata.
-/
import Derived.Test.YtlicihjjbojpcaaErrEe
import Derived.Test.YtlicihjjbojpcaaErrPb
namespace Go.Proofs.Ytlicihjjbojpcaa
set_option maxRecDepth 4000
open Go.RowKit
theorem eAt_app (F G : List Int) (n j : Nat) (h : F.length = 3 * n) (hj : j < n) : eAt (F ++ G) j = eAt F j ∧ eWr (F ++ G) j = eWr F j ∧ eRi (F ++ G) j = eRi F j := by
  unfold eAt eWr eRi
  simp only [List.getD_eq_getElem?_getD]
  rw [List.getElem?_append_left (by omega), List.getElem?_append_left (by omega), List.getElem?_append_left (by omega)]
  exact ⟨rfl, rfl, rfl⟩
theorem eAt_end (F : List Int) (n : Nat) (a b c : Int) (h : F.length = 3 * n) : eAt (F ++ [a, b, c]) n = a ∧ eWr (F ++ [a, b, c]) n = b ∧ eRi (F ++ [a, b, c]) n = c := by
  unfold eAt eWr eRi
  simp only [List.getD_eq_getElem?_getD]
  rw [List.getElem?_append_right (by omega), List.getElem?_append_right (by omega), List.getElem?_append_right (by omega)]
  rw [show n * 3 - F.length = 0 by omega, show n * 3 + 1 - F.length = 1 by omega, show n * 3 + 2 - F.length = 2 by omega]
  exact ⟨rfl, rfl, rfl⟩
theorem eLeast_app (F G : List Int) (n j : Nat) (h : F.length = 3 * n) (hj : j ≤ n) : eLeast (F ++ G) j = eLeast F j := by
  cases j with
  | zero => rfl
  | succ j => rw [eLeast, eLeast, (eAt_app F G n j h (by omega)).1]
theorem okE_app (F G : List Int) (n j : Nat) (h : F.length = 3 * n) (hj : j < n) : okE (F ++ G) j = okE F j := by
  have ⟨h1, h2, h3⟩ := eAt_app F G n j h hj
  unfold okE
  rw [h1, h2, h3, eLeast_app F G n j h (by omega)]
theorem okEs_app (F G : List Int) (n : Nat) (h : F.length = 3 * n) : ∀ j, j ≤ n → okEs (F ++ G) j = okEs F j := by
  intro j
  induction j with
  | zero => intro _; rfl
  | succ j ih => intro hj; rw [okEs, okEs, ih (by omega), okE_app F G n j h (by omega)]
theorem appL_app (zs F G : List Int) (n : Nat) (h : F.length = 3 * n) : ∀ j, j ≤ n → appL zs (F ++ G) j = appL zs F j ∧ appOk zs (F ++ G) j = appOk zs F j := by
  intro j
  induction j with
  | zero => intro _; exact ⟨rfl, rfl⟩
  | succ j ih =>
    intro hj
    have ⟨h1, h2, h3⟩ := eAt_app F G n j h (by omega)
    have ⟨i1, i2⟩ := ih (by omega)
    unfold appL appOk appOne
    rw [h1, h2, h3, i1, i2]
    exact ⟨rfl, rfl⟩
theorem errF_len (zs ys : List Int) : ∀ j, (errF zs ys j).length = 3 * errN zs ys j := by
  intro j
  induction j with
  | zero => rfl
  | succ j ih =>
    by_cases e : ys.getD j 0 = zs.getD j 0
    · have h := errF_same zs ys j e
      rw [h.1, h.2]; exact ih
    · have h := errF_more zs ys j e
      rw [h.1, h.2, List.length_append, ih]
      simp
      omega
/-- Applying the errata gives the right entries so far. -/
theorem err_apply (zs ys : List Int) (hl : zs.length = ys.length) (h60 : zs.length ≤ 60) (hb : ∀ j, inB 1000000000 (zs.getD j 0) = true ∧ inB 1000000000 (ys.getD j 0) = true) : ∀ j, j ≤ zs.length → eLeast (errF zs ys j) (errN zs ys j) ≤ j ∧ okEs (errF zs ys j) (errN zs ys j) = true ∧ appOk ys (errF zs ys j) (errN zs ys j) = true ∧ ∀ i, (appL ys (errF zs ys j) (errN zs ys j))[i]? = if i < j then zs[i]? else ys[i]? := by
  intro j
  induction j with
  | zero => intro _; exact ⟨Int.le_refl _, rfl, rfl, fun i => by rw [if_neg (by omega)]; rfl⟩
  | succ j ih =>
    intro hj
    obtain ⟨i1, i2, i3, i4⟩ := ih (by omega)
    have hF := errF_len zs ys j
    by_cases e : ys.getD j 0 = zs.getD j 0
    · have h := errF_same zs ys j e
      rw [h.1, h.2]
      refine ⟨by omega, i2, i3, fun i => ?_⟩
      rw [i4]
      by_cases e2 : i = j
      · subst e2
        obtain ⟨x, hx⟩ := get_lt zs i (by omega)
        obtain ⟨y, hy⟩ := get_lt ys i (by omega)
        rw [getD_of hx, getD_of hy] at e
        rw [if_neg (by omega), if_pos (by omega), hx, hy, e]
      · by_cases h2 : i < j
        · rw [if_pos h2, if_pos (by omega)]
        · rw [if_neg h2, if_neg (by omega)]
    · have h := errF_more zs ys j e
      rw [h.1, h.2]
      generalize hFF : errF zs ys j = F at *
      generalize hnn : errN zs ys j = n at *
      have ⟨e1, e2, e3⟩ := eAt_end F n (j : Int) (ys.getD j 0) (zs.getD j 0) hF
      refine ⟨by rw [eLeast, e1]; omega, ?_, ?_, fun i => ?_⟩
      · rw [okEs, okEs_app F _ n hF n (Nat.le_refl _), i2, Bool.true_and]
        refine (okE_iff _ n).2 ?_
        rw [e1, e2, e3, eLeast_app F _ n n hF (Nat.le_refl _)]
        exact ⟨⟨i1, by omega⟩, e, (hb j).2, (hb j).1⟩
      · rw [appOk, (appL_app ys F _ n hF n (Nat.le_refl _)).2, i3, Bool.true_and]
        unfold appOne
        rw [e1, e2, Int.toNat_natCast, decide_eq_true (by omega), decide_eq_true rfl]
        rfl
      · rw [appL, (appL_app ys F _ n hF n (Nat.le_refl _)).1, e1, e3, Int.toNat_natCast, List.getElem?_set, appL_len]
        by_cases h3 : j = i
        · subst h3
          obtain ⟨x, hx⟩ := get_lt zs j (by omega)
          rw [if_pos rfl, if_pos (by omega), if_pos (by omega), hx, getD_of hx]
        · rw [if_neg h3, i4]
          by_cases h2 : i < j
          · rw [if_pos h2, if_pos (by omega)]
          · rw [if_neg h2, if_neg (by omega)]
theorem err_sym (zs ys : List Int) : ∀ j, errN ys zs j = errN zs ys j ∧ (0 < errN zs ys j → eWr (errF ys zs j) 0 = eRi (errF zs ys j) 0) := by
  intro j
  induction j with
  | zero => exact ⟨rfl, fun h => by cases h⟩
  | succ j ih =>
    obtain ⟨i1, i2⟩ := ih
    have hF := errF_len zs ys j
    have hG := errF_len ys zs j
    by_cases e : ys.getD j 0 = zs.getD j 0
    · have h := errF_same zs ys j e
      have g := errF_same ys zs j e.symm
      rw [h.1, h.2, g.1, g.2]
      exact ⟨i1, i2⟩
    · have h := errF_more zs ys j e
      have g := errF_more ys zs j (Ne.symm e)
      rw [h.1, h.2, g.1, g.2]
      refine ⟨by rw [i1], fun _ => ?_⟩
      by_cases h0 : errN zs ys j = 0
      · rw [h0] at hF i1
        rw [i1] at hG
        rw [(eAt_end _ 0 _ _ _ hG).2.1, (eAt_end _ 0 _ _ _ hF).2.2]
      · rw [(eAt_app _ _ _ 0 hG (by omega)).2.1, (eAt_app _ _ _ 0 hF (by omega)).2.2]
        exact i2 (by omega)
theorem inB_getD (zs : List Int) (h : tableOk zs = true) (j : Nat) : inB 1000000000 (zs.getD j 0) = true := by
  by_cases hj : j < zs.length
  · obtain ⟨z, hz⟩ := get_lt zs j hj
    have ⟨h1, h2⟩ := tab_bd h hz
    rw [getD_of hz]
    unfold inB
    exact decide_eq_true ⟨h1, h2⟩
  · rw [List.getD_eq_getElem?_getD, List.getElem?_eq_none (by omega)]
    rfl
/-- The errata of a printed table make the right one. -/
theorem errata_apply (zs ys : List Int) (h : tabsOk zs ys = true) : applyA ys (errataF zs ys) (errataN zs ys) = zs ∧ applyB ys (errataF zs ys) (errataN zs ys) = true ∧ tabsOk zs zs = true ∧ errataN zs zs = 0 ∧ tabsOk ys zs = true ∧ errataN ys zs = errataN zs ys ∧ (0 < errataN zs ys → eWr (errataF ys zs) 0 = eRi (errataF zs ys) 0) := by
  have h' := h
  unfold tabsOk at h'
  simp only [Bool.and_eq_true, decide_eq_true_eq] at h'
  have ht1 : tableOk zs = true := by simp_all
  have ht2 : tableOk ys = true := by simp_all
  have hl : zs.length = ys.length := by simp_all
  have hA : tabsOk zs zs = true := by unfold tabsOk; rw [ht1]; simp
  have hB : tabsOk ys zs = true := by unfold tabsOk; rw [ht1, ht2]; simp [hl]
  have h60 := (tableOk_len _ ht1).2
  obtain ⟨_, a2, a3, a4⟩ := err_apply zs ys hl h60 (fun j => ⟨inB_getD zs ht1 j, inB_getD ys ht2 j⟩) zs.length (Nat.le_refl _)
  have hap : applyB ys (errataF zs ys) (errataN zs ys) = true := by
    unfold applyB errataF errataN
    rw [h, if_pos rfl, if_pos rfl, ht2, a2, a3]; rfl
  refine ⟨?_, hap, hA, ?_, hB, ?_, ?_⟩
  · unfold applyA
    rw [hap, if_pos rfl]
    unfold errataF errataN
    rw [h, if_pos rfl, if_pos rfl]
    refine List.ext_getElem? fun i => ?_
    rw [a4]
    split
    · rfl
    · rw [List.getElem?_eq_none (by omega), List.getElem?_eq_none (by omega)]
  · unfold errataN
    rw [hA, if_pos rfl]; exact (err_self zs zs.length).2
  · unfold errataN
    rw [hB, h, if_pos rfl, if_pos rfl, ← hl]; exact (err_sym zs ys zs.length).1
  · unfold errataN errataF
    rw [hB, h, if_pos rfl, if_pos rfl, if_pos rfl, ← hl]; exact (err_sym zs ys zs.length).2
set_option maxHeartbeats 1600000 in
theorem deE_yes (v u : Value) (n : Nat) (F : List Int) (w : World) (l1 h1 l2 h2 : Nat) (hv : Lies3 w l1 h1 v n F) (hu : Lies3 w l2 h2 u n F) (hn : n ≤ 1000) : Calls Try.prog 25 #[v, u] w (Gives (.bool true) w) := by
  obtain ⟨hF, a, cap, rfl, hnc, hcm, hnil, hL⟩ := hv
  obtain ⟨_, a2, cap2, rfl, hnc2, hcm2, hnil2, hL2⟩ := hu
  unfold maxLen at hcm hcm2
  obtain ⟨a', c', e, _, _, _, hcell⟩ := hL
  injection e with e1 e2 e3
  subst e1
  clear e2 e3
  obtain ⟨a', c', e, _, _, _, hcell2⟩ := hL2
  injection e with e1 e2 e3
  subst e1
  clear e2 e3
  have HC := hidH hcell
  have HC2 := hidH hcell2
  have HF := hidH hF
  clear hcell hcell2 hnil hnil2 hF
  go_enter Try.func25, Try.ntmps25
  go_wp2
  go_loopw [5] (fun i wr => ∃ k : Nat, k ≤ n ∧ i = .int .i64 k ∧ Below w.heap.size w wr) (fun i _ => n - (intOf i).toNat)
  case atStart => exact ⟨0, Nat.zero_le _, rfl, Below.refl _ _⟩
  case round =>
    obtain ⟨k, hk, rfl, hb⟩ := hrel
    have Hb := hidH hb
    clear hb
    by_cases hlt : k < n
    · have hF := HF.out
      obtain ⟨x, hx⟩ := get_lt F (k * 3) (by omega)
      obtain ⟨y, hy⟩ := get_lt F (k * 3 + 1) (by omega)
      obtain ⟨z, hz⟩ := get_lt F (k * 3 + 2) (by omega)
      obtain ⟨b, off, rfl, _, _, h0⟩ := HC.out _ x hx
      obtain ⟨_, _, e, _, _, h1⟩ := HC.out _ y hy
      injection e with e; injection e with e1 e2; subst e1; subst e2
      obtain ⟨_, _, e, _, _, h2⟩ := HC.out _ z hz
      injection e with e; injection e with e1 e2; subst e1; subst e2
      obtain ⟨b2, off2, rfl, _, _, g0⟩ := HC2.out _ x hx
      obtain ⟨_, _, e, _, _, g1⟩ := HC2.out _ y hy
      injection e with e; injection e with e1 e2; subst e1; subst e2
      obtain ⟨_, _, e, _, _, g2⟩ := HC2.out _ z hz
      injection e with e; injection e with e1 e2; subst e1; subst e2
      have c0 : wr.cell? ⟨b, off + k * 3, none⟩ = some (.int .i64 x) := by rw [Hb.out.cell (p := ⟨b, off + k * 3, none⟩) (cell_blk _ _ _ h0)]; exact h0
      have c1 : wr.cell? ⟨b, off + k * 3 + 1, none⟩ = some (.int .i64 y) := by rw [show off + k * 3 + 1 = off + (k * 3 + 1) by omega, Hb.out.cell (p := ⟨b, off + (k * 3 + 1), none⟩) (cell_blk _ _ _ h1)]; exact h1
      have c2 : wr.cell? ⟨b, off + k * 3 + 2, none⟩ = some (.int .i64 z) := by rw [show off + k * 3 + 2 = off + (k * 3 + 2) by omega, Hb.out.cell (p := ⟨b, off + (k * 3 + 2), none⟩) (cell_blk _ _ _ h2)]; exact h2
      have d0 : wr.cell? ⟨b2, off2 + k * 3, none⟩ = some (.int .i64 x) := by rw [Hb.out.cell (p := ⟨b2, off2 + k * 3, none⟩) (cell_blk _ _ _ g0)]; exact g0
      have d1 : wr.cell? ⟨b2, off2 + k * 3 + 1, none⟩ = some (.int .i64 y) := by rw [show off2 + k * 3 + 1 = off2 + (k * 3 + 1) by omega, Hb.out.cell (p := ⟨b2, off2 + (k * 3 + 1), none⟩) (cell_blk _ _ _ g1)]; exact g1
      have d2 : wr.cell? ⟨b2, off2 + k * 3 + 2, none⟩ = some (.int .i64 z) := by rw [show off2 + k * 3 + 2 = off2 + (k * 3 + 2) by omega, Hb.out.cell (p := ⟨b2, off2 + (k * 3 + 2), none⟩) (cell_blk _ _ _ g2)]; exact g2
      clear h0 h1 h2 g0 g1 g2 hx hy hz hF
      go_wp2_with fail
      go_quiet (fail)
      clear c0 c1 c2 d0 d1 d2
      go_wp2_with fail
      go_roundw
      case rel => exact ⟨k + 1, by omega, by go_num, below_drewN Hb.out _⟩
      case measure => simp [intOf]; omega
    · obtain rfl : k = n := by omega
      go_wp2
      go_ret
      exact ⟨rfl, Hb.out⟩
end Go.Proofs.Ytlicihjjbojpcaa
