/-
  Rows of engines in memory, and the laws' own functions on them. Condition: not more numbers than the laws let through.
-/
import Derived.Test.YtgogpajafjihdaaEngBox
import Derived.Test.YtgogpajafjihdaaBox
import Derived.Test.YtgogpajafjihdaaSs
import Derived.Test.YtgogpajafjihdaaSl
namespace Go.Proofs.Ytgogpajafjihdaa
set_option maxRecDepth 4000
open Go.RowKit
/-- The slice v holds these engines, which can be read. -/
def LiesEs (w : World) (hi : Nat) (v : Value) (es : List (List ByteArray)) : Prop := ∃ (a : Option Addr) (cap : Nat), v = .slice a es.length cap ∧ es.length ≤ cap ∧ cap ≤ maxLen ∧ (a = none → cap = 0) ∧
  ∀ (j : Nat) cs, es[j]? = some cs → ∃ b off u, a = some ⟨b, off, none⟩ ∧ b < hi ∧ w.cell? ⟨b, off + j, none⟩ = some u ∧ LiesS w 0 hi u cs
theorem LiesEs.apart {w w' : World} {lo hi h : Nat} {v : Value} {es : List (List ByteArray)} (H : LiesEs w h v es) (hA : Apart lo hi w w') (hd : h ≤ lo) : LiesEs w' h v es := by
  obtain ⟨a, cap, h1, h2, h3, h4, h5⟩ := H
  refine ⟨a, cap, h1, h2, h3, h4, fun j cs hj => ?_⟩
  obtain ⟨b, off, u, e, hb, hc, hl⟩ := h5 j cs hj
  exact ⟨b, off, u, e, hb, by rw [World.cell?_of_block (w := w) (hA.block b (cell_blk _ _ _ hc) (by omega))]; exact hc, hl.apart hA (.inl hd)⟩
theorem LiesEs.below {w w' : World} {h : Nat} {v : Value} {es : List (List ByteArray)} (H : LiesEs w h v es) (hb : Below w.heap.size w w') : LiesEs w' h v es := H.apart (lo := h) (hi := h) (Apart.of_below hb) (Nat.le_refl _)
theorem LiesEs.mono {w : World} {h h' : Nat} {v : Value} {es : List (List ByteArray)} (H : LiesEs w h v es) (hh : h ≤ h') : LiesEs w h' v es := by
  obtain ⟨a, cap, h1, h2, h3, h4, h5⟩ := H
  refine ⟨a, cap, h1, h2, h3, h4, fun j cs hj => ?_⟩
  obtain ⟨b, off, u, e, hb, hc, hl⟩ := h5 j cs hj
  exact ⟨b, off, u, e, by omega, hc, hl.mono (Nat.le_refl _) hh⟩
theorem LiesEs.len {w : World} {h : Nat} {v : Value} {es : List (List ByteArray)} (H : LiesEs w h v es) : ∃ a cap, v = .slice a es.length cap ∧ es.length ≤ cap ∧ cap ≤ maxLen := by
  obtain ⟨a, cap, h1, h2, h3, _⟩ := H
  exact ⟨a, cap, h1, h2, h3⟩
theorem LiesEs.addr {w : World} {h : Nat} {v : Value} {es : List (List ByteArray)} (H : LiesEs w h v es) (h0 : 0 < es.length) : ∃ b off cap, v = .slice (some ⟨b, off, none⟩) es.length cap ∧ es.length ≤ cap ∧ cap ≤ maxLen ∧ b < w.heap.size ∧
    ∀ (j : Nat) cs, es[j]? = some cs → ∃ u, w.cell? ⟨b, off + j, none⟩ = some u ∧ LiesS w 0 h u cs := by
  obtain ⟨a, cap, h1, h2, h3, _, h5⟩ := H
  obtain ⟨b, off, u, e, _, hc, _⟩ := h5 0 (es[0]'h0) (List.getElem?_eq_getElem h0)
  subst e
  refine ⟨b, off, cap, h1, h2, h3, cell_blk _ _ _ hc, fun j cs hj => ?_⟩
  obtain ⟨b2, off2, u2, e, _, hc2, hl2⟩ := h5 j cs hj
  injection e with e
  injection e with e1 e2
  subst e1; subst e2
  exact ⟨u2, hc2, hl2⟩
/-- The engines lie in block b, with columns of their own between the bounds L. -/
def EsAt (w : World) (b : Nat) (L : Nat → Nat) (es : List (List ByteArray)) : Prop := ∀ (j : Nat) cs, es[j]? = some cs → ∃ u, w.cell? ⟨b, j, none⟩ = some u ∧ w.frozen? ⟨b, j, none⟩ = false ∧ RowS w (L j) (L (j + 1)) u cs
/-- The slice v is a row of the call's own that holds these engines, each with columns of its own behind it. -/
def RowEs (w : World) (lo hi : Nat) (v : Value) (es : List (List ByteArray)) : Prop := ∃ (a : Option Addr) (b cap : Nat) (L : Nat → Nat), v = .slice a es.length cap ∧ es.length ≤ cap ∧ cap ≤ maxLen ∧ (a = none → cap = 0) ∧ (0 < es.length → a = some ⟨b, 0, none⟩ ∧ lo ≤ b ∧ b < hi ∧ b < L 0) ∧ (∀ j, j < es.length → L j ≤ L (j + 1)) ∧ lo ≤ L 0 ∧ L es.length ≤ hi ∧ EsAt w b L es
theorem monoL {L : Nat → Nat} {n : Nat} (h : ∀ j, j < n → L j ≤ L (j + 1)) (i j : Nat) (hij : i ≤ j) (hj : j ≤ n) : L i ≤ L j := by
  induction j with
  | zero =>
    obtain rfl : i = 0 := by omega
    exact Nat.le_refl _
  | succ j ih =>
    by_cases e : i = j + 1
    · subst e; exact Nat.le_refl _
    · exact Nat.le_trans (ih (by omega) (by omega)) (h j (by omega))
theorem EsAt.apart {w w' : World} {b lo hi n : Nat} {L : Nat → Nat} {es : List (List ByteArray)} (H : EsAt w b L es) (hn : es.length = n) (hL : ∀ j, j < n → L j ≤ L (j + 1)) (hA : Apart lo hi w w') (hb : b < lo ∨ hi ≤ b) (hd : L n ≤ lo ∨ hi ≤ L 0) : EsAt w' b L es := by
  intro j cs hj
  obtain ⟨u, hc, hf, hr⟩ := H j cs hj
  have hjl := (List.getElem?_eq_some_iff.1 hj).1
  have hk := hA.block b (cell_blk _ _ _ hc) hb
  have m1 := monoL hL 0 j (Nat.zero_le _) (by omega)
  have m2 := monoL hL (j + 1) n (by omega) (Nat.le_refl _)
  exact ⟨u, by rw [World.cell?_of_block (w := w) hk]; exact hc, by rw [World.frozen?_of_block (w := w) hk]; exact hf, hr.apart hA (by omega)⟩
theorem RowEs.apart {w w' : World} {lo hi l h : Nat} {v : Value} {es : List (List ByteArray)} (H : RowEs w l h v es) (hA : Apart lo hi w w') (hd : h ≤ lo ∨ hi ≤ l) : RowEs w' l h v es := by
  obtain ⟨a, b, cap, L, h1, h2, h3, h4, h5, hL, hlo, hhi, hat⟩ := H
  refine ⟨a, b, cap, L, h1, h2, h3, h4, h5, hL, hlo, hhi, ?_⟩
  by_cases h0 : 0 < es.length
  · obtain ⟨_, b1, b2, b3⟩ := h5 h0
    exact hat.apart rfl hL hA (by omega) (by omega)
  · intro j cs hj
    have := (List.getElem?_eq_some_iff.1 hj).1
    omega
theorem RowEs.below {w w' : World} {l h : Nat} {v : Value} {es : List (List ByteArray)} (H : RowEs w l h v es) (hb : Below w.heap.size w w') : RowEs w' l h v es := H.apart (lo := h) (hi := h) (Apart.of_below hb) (.inl (Nat.le_refl _))
theorem RowEs.lies {w : World} {lo hi : Nat} {v : Value} {es : List (List ByteArray)} (H : RowEs w lo hi v es) : LiesEs w hi v es := by
  obtain ⟨a, b, cap, L, h1, h2, h3, h4, h5, hL, hlo, hhi, hat⟩ := H
  refine ⟨a, cap, h1, h2, h3, h4, fun j cs hj => ?_⟩
  have hjl := (List.getElem?_eq_some_iff.1 hj).1
  obtain ⟨e, b1, b2, b3⟩ := h5 (by omega)
  obtain ⟨u, hc, hf, hr⟩ := hat j cs hj
  exact ⟨b, 0, u, e, b2, by rw [Nat.zero_add]; exact hc, hr.lies.mono (Nat.zero_le _) (Nat.le_trans (monoL hL (j + 1) es.length (by omega) (Nat.le_refl _)) hhi)⟩
theorem RowEs.nil (w : World) (lo hi : Nat) (a : Option Addr) (cap : Nat) (hc : cap ≤ maxLen) (ha : a = none → cap = 0) (hh : lo ≤ hi) : RowEs w lo hi (.slice a 0 cap) [] := ⟨a, 0, cap, fun _ => lo, rfl, Nat.zero_le _, hc, ha, fun h => absurd h (Nat.lt_irrefl _), fun _ _ => Nat.le_refl _, Nat.le_refl _, hh, fun _ _ h => by simp at h⟩
/-- A call that answers a new row of engines and a truth. -/
def NewEsB (es : List (List ByteArray)) (b : Bool) (w : World) (e : Ending) (w' : World) : Prop := ∃ v, e = .returned (.tuple #[v, .bool b]) ∧ RowEs w' w.heap.size w'.heap.size v es ∧ Below w.heap.size w w'
/-- A call that answers engines that can be read, and a truth. -/
def ReadEsB (es : List (List ByteArray)) (b : Bool) (w : World) (e : Ending) (w' : World) : Prop := ∃ v, e = .returned (.tuple #[v, .bool b]) ∧ LiesEs w' w'.heap.size v es ∧ Below w.heap.size w w'
/-! ### The laws' own functions -/
set_option maxHeartbeats 1600000 in
theorem eqEs_yes (v u : Value) (es : List (List ByteArray)) (w : World) (h1 h2 : Nat) (hv : LiesEs w h1 v es) (hu : LiesEs w h2 u es) (hn : es.length ≤ 1048576) : Calls Try.prog 8 #[v, u] w (Gives (.bool true) w) := by
  have HV := hidH hv
  have HU := hidH hu
  obtain ⟨a, cap, rfl, hlc, hcm⟩ := hv.len
  obtain ⟨a2, cap2, rfl, hlc2, hcm2⟩ := hu.len
  unfold maxLen at hcm hcm2
  clear hv hu
  go_enter Try.func8, Try.ntmps8
  go_wp2
  go_loopw [5] (fun i wr => ∃ k : Nat, k ≤ es.length ∧ i = .int .i64 k ∧ Below w.heap.size w wr) (fun i _ => es.length - (intOf i).toNat)
  case atStart => exact ⟨0, Nat.zero_le _, rfl, Below.refl _ _⟩
  case round =>
    obtain ⟨k, hk, rfl, hb⟩ := hrel
    have Hb := hidH hb
    clear hb
    by_cases hlt : k < es.length
    · obtain ⟨b, off, cc1, e, _, _, _, hcl⟩ := HV.out.addr (by omega)
      injection e with e1 e2 e3
      subst e1; subst e3
      obtain ⟨b2, off2, cc2, e, _, _, _, hcl2⟩ := HU.out.addr (by omega)
      injection e with e1 e2 e3
      subst e1; subst e3
      obtain ⟨cs, hx⟩ : ∃ x, es[k]? = some x := ⟨es[k], List.getElem?_eq_getElem hlt⟩
      obtain ⟨p, q1, q2⟩ := hcl k cs hx
      obtain ⟨p2, r1, r2⟩ := hcl2 k cs hx
      have c1 : wr.cell? ⟨b, off + k, none⟩ = some p := by rw [Hb.out.cell (p := ⟨b, off + k, none⟩) (cell_blk _ _ _ q1)]; exact q1
      have d1 : wr.cell? ⟨b2, off2 + k, none⟩ = some p2 := by rw [Hb.out.cell (p := ⟨b2, off2 + k, none⟩) (cell_blk _ _ _ r1)]; exact r1
      have HP := hidH (q2.below Hb.out)
      have HP2 := hidH (r2.below Hb.out)
      have HE := hidH (fun W (hb : Below wr.heap.size wr W) => eqEng_yes p p2 cs W _ _ _ _ (HP.out.below hb) (HP2.out.below hb))
      have HBc := hidH (Below.refl wr.heap.size wr)
      clear hcl hcl2 q1 q2 r1 r2 hx
      go_wp2_with fail
      go_region_with ((go_at_call 21; (with_reducible refine (HE.out _ (by first | exact HBc.out | exact HBc.out.drew)).mono ?_); rintro e wd ⟨rfl, hbd⟩; (have HBc := hidH (Below.trans ((Below.refl wr.heap.size wr).drew) (hbd.mono (Nat.le_refl _)))); clear hbd))
      all_goals (
        clear c1 d1
        go_wp2_with fail
        go_roundw
        case rel => exact ⟨k + 1, by omega, by go_num, Hb.out.trans (HBc.out.mono Hb.out.size)⟩
        case measure => simp [intOf]; omega)
    · obtain rfl : k = es.length := by omega
      go_wp2
      go_ret
      exact ⟨rfl, Hb.out⟩
def lenE (es : List (List ByteArray)) : Nat := (es.map List.length).sum
theorem lenE_snoc (es : List (List ByteArray)) (k : Nat) (s : List ByteArray) (h : es[k]? = some s) : lenE (es.take (k + 1)) = lenE (es.take k) + s.length := by
  unfold lenE
  rw [List.take_add_one, h, List.map_append, List.sum_append]
  simp
theorem lenE_take (es : List (List ByteArray)) (k : Nat) : lenE (es.take k) ≤ lenE es := by
  have h : lenE es = lenE (es.take k) + lenE (es.drop k) := by
    have e := List.take_append_drop k es
    unfold lenE
    conv => lhs; rw [← e]
    rw [List.map_append, List.sum_append]
  omega
/-- The marks of a row of engines from k on. -/
def mkE : List (List ByteArray) → Nat → List (List ByteArray)
  | [], _ => []
  | s :: es, k => upT k s.length :: mkE es (k + s.length)
theorem mkE_length (es : List (List ByteArray)) (k : Nat) : (mkE es k).length = es.length := by
  induction es generalizing k with
  | nil => rfl
  | cons s es ih => simp [mkE, ih]
theorem mkE_at (es : List (List ByteArray)) (k : Nat) (j : Nat) (s : List ByteArray) (h : es[j]? = some s) : (mkE es k)[j]? = some (upT (k + lenE (es.take j)) s.length) := by
  induction es generalizing k j with
  | nil => simp at h
  | cons t es ih =>
    cases j with
    | zero =>
      have e : t = s := by simpa using h
      subst e
      simp [mkE, lenE]
    | succ j =>
      have h' : es[j]? = some s := by simpa using h
      have e : k + t.length + lenE (es.take j) = k + lenE ((t :: es).take (j + 1)) := by
        simp only [lenE, List.take_succ_cons, List.map_cons, List.sum_cons]
        omega
      show (mkE es (k + t.length))[j]? = _
      rw [ih _ j h', e]
def mixE (es : List (List ByteArray)) (k0 : Nat) (k : Nat) : List (List ByteArray) := (mkE es k0).take k ++ es.drop k
theorem mixE_length (es : List (List ByteArray)) (k0 : Nat) (k : Nat) (h : k ≤ es.length) : (mixE es k0 k).length = es.length := by
  unfold mixE
  rw [List.length_append, List.length_take, List.length_drop, mkE_length]
  omega
theorem mixE_zero (es : List (List ByteArray)) (k0 : Nat) : mixE es k0 0 = es := by simp [mixE]
theorem mixE_all (es : List (List ByteArray)) (k0 : Nat) : mixE es k0 es.length = mkE es k0 := by
  unfold mixE
  rw [List.drop_length, List.append_nil, List.take_of_length_le (by rw [mkE_length]; exact Nat.le_refl _)]
theorem mixE_at (es : List (List ByteArray)) (k0 : Nat) (k : Nat) (h : k < es.length) : (mixE es k0 k)[k]? = es[k]? := by
  unfold mixE
  rw [List.getElem?_append_right (by rw [List.length_take, mkE_length]; omega), List.length_take, mkE_length, Nat.min_eq_left (by omega), Nat.sub_self, List.getElem?_drop, Nat.add_zero]
theorem mixE_next (es : List (List ByteArray)) (k0 : Nat) (k : Nat) (s : List ByteArray) (h : es[k]? = some s) : (mixE es k0 k).set k (upT (k0 + lenE (es.take k)) s.length) = mixE es k0 (k + 1) := by
  have hk := (List.getElem?_eq_some_iff.1 h).1
  unfold mixE
  rw [List.set_append_right _ _ (by rw [List.length_take, mkE_length]; omega), List.length_take, mkE_length, Nat.min_eq_left (by omega), Nat.sub_self, List.drop_eq_getElem_cons (by omega), List.set_cons_zero, List.take_add_one, mkE_at es k0 k s h]
  simp
theorem EsAt.upd {w w' : World} {b k n : Nat} {L : Nat → Nat} {es : List (List ByteArray)} {zs : List ByteArray} {u : Value} (h : EsAt w b L es) (hn : es.length = n) (hL : ∀ j, j < n → L j ≤ L (j + 1)) (hb : b < L 0) (hk : es[k]? = some zs) (hu : w.cell? ⟨b, k, none⟩ = some u) (ys : List ByteArray)
    (hA : Apart (L k) (L (k + 1)) w w') (hr : RowS w' (L k) (L (k + 1)) u ys) : EsAt w' b L (es.set k ys) := by
  intro j zs' hj
  have hkl := (List.getElem?_eq_some_iff.1 hk).1
  have hjl : j < es.length := by have := (List.getElem?_eq_some_iff.1 hj).1; rwa [List.length_set] at this
  obtain ⟨u0, k0, kf, kr⟩ := h k zs hk
  have hbw : b < w.heap.size := cell_blk _ _ _ k0
  have hm := monoL hL
  have hbk : b < L k := Nat.lt_of_lt_of_le hb (hm 0 k (Nat.zero_le _) (by omega))
  have hblk := hA.block b hbw (.inl hbk)
  by_cases e : j = k
  · subst e
    rw [List.getElem?_set_self hkl] at hj
    injection hj with hj
    subst hj
    exact ⟨u, by rw [World.cell?_of_block (w := w) hblk]; exact hu, by rw [World.frozen?_of_block (w := w) hblk]; exact kf, hr⟩
  · rw [List.getElem?_set_ne (fun h => e h.symm)] at hj
    obtain ⟨u', g0, gf, gr⟩ := h j zs' hj
    refine ⟨u', by rw [World.cell?_of_block (w := w) hblk]; exact g0, by rw [World.frozen?_of_block (w := w) hblk]; exact gf, gr.apart hA ?_⟩
    rcases Nat.lt_or_gt_of_ne e with h | h
    · exact .inl (hm (j + 1) k (by omega) (by omega))
    · exact .inr (hm (k + 1) j (by omega) (by omega))
set_option maxHeartbeats 1600000 in
theorem markEs_any (v : Value) (es : List (List ByteArray)) (k0 : Nat) (w : World) (lo hi : Nat) (hv : RowEs w lo hi v es) (hk1 : 1 ≤ k0) (hT : k0 + lenE es ≤ 4194304) (hS : lenE es ≤ 1048576) : Calls Try.prog 11 #[v, .int .i64 k0] w fun e w' => e = .returned (.int .i64 ((k0 + lenE es : Nat) : Int)) ∧ RowEs w' lo hi v (mkE es k0) ∧ Apart lo hi w w' := by
  obtain ⟨a, b, cap, L, rfl, hlc, hcm, hnil, h5, hL, hlo, hhi, hat⟩ := hv
  have H5 := hidH h5
  have HNIL := hidH hnil
  have HL := hidH hL
  have HAT := hidH hat
  have HCM := hidH hcm
  unfold maxLen at hcm
  have HTT := hidH (fun k => lenE_take es k)
  clear hL hat h5 hnil
  generalize hnn : es.length = n at *
  have HN := hidH hnn
  clear hnn
  go_enter Try.func11, Try.ntmps11
  go_wp2_with fail
  go_loopw [1, 5] (fun m i wr => ∃ k : Nat, k ≤ n ∧ i = .int .i64 k ∧ m = .int .i64 ((k0 + lenE (es.take k) : Nat) : Int) ∧ EsAt wr b L (mixE es k0 k) ∧ Apart lo hi w wr) (fun _ i _ => n - (intOf i).toNat)
  case atStart => exact ⟨0, Nat.zero_le _, rfl, by simp [lenE], by rw [mixE_zero]; exact HAT.out, Apart.of_below (Below.refl _ _)⟩
  case round =>
    obtain ⟨k, hk, rfl, rfl, hs, ha⟩ := hrel
    have HS := hidH hs
    have HA := hidH ha
    clear hs ha
    by_cases hlt : k < n
    · obtain ⟨zs, hx⟩ : ∃ x, es[k]? = some x := ⟨es[k]'(by rw [HN.out]; exact hlt), List.getElem?_eq_getElem _⟩
      obtain ⟨rfl, b1, b2, b3⟩ := H5.out (by omega)
      have hmk : (mixE es k0 k)[k]? = some zs := by rw [mixE_at es k0 k (by rw [HN.out]; exact hlt)]; exact hx
      obtain ⟨u, c0, f0, hr⟩ := HS.out k zs hmk
      obtain ⟨ua, uc, rfl⟩ := hr.some
      have HMK := hidH hmk
      have HX := hidH hx
      have HTN := hidH (lenE_snoc es k zs hx)
      have htt : lenE (es.take (k + 1)) ≤ lenE es := HTT.out (k + 1)
      rw [HTN.out] at htt
      have HNX := hidH (mixE_next es k0 k zs hx)
      have hlc1 : (mixE es k0 k).length = n := by rw [mixE_length es k0 k (by rw [HN.out]; omega), HN.out]
      have HLC := hidH hlc1
      have hkn := monoL HL.out (k + 1) n (by omega) (Nat.le_refl _)
      have hk0 := monoL HL.out 0 k (Nat.zero_le _) (by omega)
      have HBL := hidH (show b < L k ∧ lo ≤ L k ∧ L (k + 1) ≤ hi by omega)
      generalize hM : k0 + lenE (es.take k) = M at *
      have hM1 : 1 ≤ M := by omega
      have hzl : zs.length ≤ 1048576 := by omega
      have hM2 : M + zs.length ≤ 4194304 := by omega
      have HMM := hidH hM
      have HR1 := hidH hr
      have HC0 := hidH c0
      clear hr hmk hx hM htt hkn hk0 hlc1
      go_wp2_with fail
      refine (markTexts_any _ zs M _ _ _ HR1.out (by omega) (by omega) (by omega)).mono ?_; rintro e w5 ⟨rfl, hr, ha⟩
      have HU := hidH (HS.out.upd HLC.out HL.out b3 HMK.out HC0.out (upT M zs.length) ha hr)
      have HAA := hidH (HA.out.trans (⟨ha.os, ha.tape, ha.output, ha.size, fun q hq hd => ha.block q hq (by have := HBL.out; omega)⟩ : Apart lo hi wr w5))
      clear hr ha c0 f0
      go_wp2_with fail
      go_roundw
      case rel =>
        refine ⟨k + 1, by omega, by go_num, ?_, ?_, HAA.out⟩
        · rw [HTN.out]; have := HMM.out; show Value.int .i64 ((M + zs.length : Nat) : Int) = _; first | rfl | (congr 1; omega)
        · rw [← HNX.out]; exact HU.out
      case measure => simp [intOf]; omega
    · obtain rfl : k = n := by omega
      have hcs : es.take k = es := by rw [← HN.out, List.take_length]
      have HE := hidH (show k0 + lenE (es.take k) = k0 + lenE es by rw [hcs])
      have hs := HS.out
      rw [show mixE es k0 k = mkE es k0 by rw [← HN.out]; exact mixE_all es k0] at hs
      have HS2 := hidH hs
      clear hs hcs HS
      go_wp2_with fail
      go_ret
      exact ⟨by rw [← HE.out]; rfl, ⟨a, b, cap, L, by rw [mkE_length, HN.out], by rw [mkE_length, HN.out]; exact hlc, HCM.out, HNIL.out, by rw [mkE_length, HN.out]; exact H5.out, by rw [mkE_length, HN.out]; exact HL.out, hlo, by rw [mkE_length, HN.out]; exact hhi, HS2.out⟩, HA.out⟩
set_option maxHeartbeats 1600000 in
theorem heldEs_any (v : Value) (es : List (List ByteArray)) (k0 : Nat) (w : World) (h1 : Nat) (hv : LiesEs w h1 v (mkE es k0)) (hk1 : 1 ≤ k0) (hT : k0 + lenE es ≤ 4194304) (hS : lenE es ≤ 1048576) : Calls Try.prog 12 #[v, .int .i64 k0] w (Gives (.int .i64 ((k0 + lenE es : Nat) : Int)) w) := by
  have HV := hidH hv
  obtain ⟨a, cap, rfl, hlc, hcm⟩ := hv.len
  rw [mkE_length] at hlc HV ⊢
  unfold maxLen at hcm
  have HTT := hidH (fun k => lenE_take es k)
  have HML := hidH (mkE_length es k0)
  clear hv
  go_enter Try.func12, Try.ntmps12
  go_wp2_with fail
  go_loopw [1, 5] (fun m i wr => ∃ k : Nat, k ≤ es.length ∧ i = .int .i64 k ∧ m = .int .i64 ((k0 + lenE (es.take k) : Nat) : Int) ∧ Below w.heap.size w wr) (fun _ i _ => es.length - (intOf i).toNat)
  case atStart => exact ⟨0, Nat.zero_le _, rfl, by simp [lenE], Below.refl _ _⟩
  case round =>
    obtain ⟨k, hk, rfl, rfl, hb⟩ := hrel
    have HB := hidH hb
    clear hb
    by_cases hlt : k < es.length
    · obtain ⟨b, off, cc1, e, _, _, _, hcl⟩ := HV.out.addr (by rw [HML.out]; omega)
      injection e with e1 e2 e3
      subst e1; subst e3
      clear e2
      obtain ⟨zs, hx⟩ : ∃ x, es[k]? = some x := ⟨es[k], List.getElem?_eq_getElem hlt⟩
      obtain ⟨p, q1, q2⟩ := hcl k _ (mkE_at es k0 k zs hx)
      have c1 : wr.cell? ⟨b, off + k, none⟩ = some p := by rw [HB.out.cell (p := ⟨b, off + k, none⟩) (cell_blk _ _ _ q1)]; exact q1
      have HTN := hidH (lenE_snoc es k zs hx)
      have htt : lenE (es.take (k + 1)) ≤ lenE es := HTT.out (k + 1)
      rw [HTN.out] at htt
      generalize hM : k0 + lenE (es.take k) = M at *
      have hM1 : 1 ≤ M := by omega
      have hzl : zs.length ≤ 1048576 := by omega
      have hM2 : M + zs.length ≤ 4194304 := by omega
      have HMM := hidH hM
      have HP := hidH (q2.below HB.out)
      obtain ⟨pa, pc, rfl⟩ := q2.some
      clear hcl q1 q2 hx hM htt
      go_wp2_with fail
      refine (heldTexts_any _ M zs.length _ _ _ HP.out (by omega) (by omega) (by omega)).mono ?_; rintro e w5 ⟨rfl, hb⟩
      have HB5 := hidH (bThen HB.out hb)
      clear hb c1
      go_wp2_with fail
      go_roundw
      case rel =>
        refine ⟨k + 1, by omega, by go_num, ?_, HB5.out⟩
        rw [HTN.out]; have := HMM.out; show Value.int .i64 ((M + zs.length : Nat) : Int) = _; first | rfl | (congr 1; omega)
      case measure => simp [intOf]; omega
    · obtain rfl : k = es.length := by omega
      have HE := hidH (show k0 + lenE (es.take es.length) = k0 + lenE es by rw [List.take_length])
      go_wp2_with fail
      go_ret
      exact ⟨by rw [← HE.out]; rfl, HB.out⟩
end Go.Proofs.Ytgogpajafjihdaa
