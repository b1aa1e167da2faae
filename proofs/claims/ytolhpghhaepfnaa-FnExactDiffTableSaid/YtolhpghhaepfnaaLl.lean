/-
  Rows of rows of numbers in memory, and the laws' own functions on them: equality, marks and whether they still stand. Condition: at most 1000 rows of at most 1000 numbers.
-/
import Derived.Test.YtolhpghhaepfnaaSlFns
import Derived.Deep.RegionWith
namespace Go.Proofs.Ytolhpghhaepfnaa
set_option maxRecDepth 4000
open Go.RowKit
/-- Block b holds rows, each in a block of its own. -/
def LRow (w : World) (b : Nat) (f : Nat → Nat) (zss : List (List Int)) : Prop :=
  ∀ (j : Nat) zs, zss[j]? = some zs → ∃ a cap, w.cell? ⟨b, j, none⟩ = some (.slice a zs.length cap) ∧ w.frozen? ⟨b, j, none⟩ = false ∧ f j ≠ b ∧ f j < w.heap.size ∧ Row w (f j) (f j + 1) (.slice a zs.length cap) zs
/-- The slice v is a row of rows of its own. -/
def RowL (w : World) (lo hi : Nat) (v : Value) (zss : List (List Int)) : Prop :=
  (zss = [] ∧ ∃ a cap, v = .slice a 0 cap ∧ cap ≤ maxLen) ∨
  ∃ (b cap : Nat) (f : Nat → Nat), v = .slice (some ⟨b, 0, none⟩) zss.length cap ∧ 0 < zss.length ∧ zss.length ≤ cap ∧ cap ≤ maxLen ∧ lo ≤ b ∧ b < hi ∧ b < w.heap.size ∧ (∀ j, j < zss.length → lo ≤ f j ∧ f j < hi) ∧ (∀ i j, i < zss.length → j < zss.length → f i = f j → i = j) ∧ LRow w b f zss
theorem LRow.apart {w w' : World} {b lo hi : Nat} {f : Nat → Nat} {zss : List (List Int)} (H : LRow w b f zss) (hb : b < w.heap.size) (hA : Apart lo hi w w') (h1 : b < lo ∨ hi ≤ b) (h2 : ∀ j, j < zss.length → f j < lo ∨ hi ≤ f j) : LRow w' b f zss := by
  intro j zs hj
  obtain ⟨a, cap, hc, hf, hne, hlt, hr⟩ := H j zs hj
  have hjl := (List.getElem?_eq_some_iff.1 hj).1
  have hk := hA.block b hb h1
  have h2j := h2 j hjl
  exact ⟨a, cap, by rw [World.cell?_of_block (w := w) hk]; exact hc, by rw [World.frozen?_of_block (w := w) hk]; exact hf, hne, Nat.lt_of_lt_of_le hlt hA.size, hr.apart hA (by omega)⟩
theorem LRow.below {w w' : World} {b : Nat} {f : Nat → Nat} {zss : List (List Int)} (H : LRow w b f zss) (hb : b < w.heap.size) (hA : Below w.heap.size w w') : LRow w' b f zss :=
  H.apart (lo := 0) (hi := 0) hb (Apart.of_below hA) (Or.inr (Nat.zero_le _)) (fun _ _ => Or.inr (Nat.zero_le _))
theorem RowL.apart {w w' : World} {lo hi l h : Nat} {v : Value} {zss : List (List Int)} (H : RowL w l h v zss) (hA : Apart lo hi w w') (hd : h ≤ lo ∨ hi ≤ l) : RowL w' l h v zss := by
  rcases H with H | ⟨b, cap, f, hv, h0, h1, h2, h3, h4, h5, h6, h7, h8⟩
  · exact Or.inl H
  · exact Or.inr ⟨b, cap, f, hv, h0, h1, h2, h3, h4, Nat.lt_of_lt_of_le h5 hA.size, h6, h7, h8.apart h5 hA (by omega) (fun j hj => by have := h6 j hj; omega)⟩
theorem RowL.below {w w' : World} {l h : Nat} {v : Value} {zss : List (List Int)} (H : RowL w l h v zss) (hb : Below w.heap.size w w') : RowL w' l h v zss := H.apart (lo := h) (hi := h) (Apart.of_below hb) (Or.inl (Nat.le_refl _))
theorem RowL.mono {w : World} {l h l' h' : Nat} {v : Value} {zss : List (List Int)} (H : RowL w l h v zss) (hl : l' ≤ l) (hh : h ≤ h') : RowL w l' h' v zss := by
  rcases H with H | ⟨b, cap, f, hv, h0, h1, h2, h3, h4, h5, h6, h7, h8⟩
  · exact Or.inl H
  · exact Or.inr ⟨b, cap, f, hv, h0, h1, h2, by omega, by omega, h5, fun j hj => by have := h6 j hj; omega, h7, h8⟩
set_option maxHeartbeats 1600000 in
theorem eqL_yes (v u : Value) (zss : List (List Int)) (w : World) (l1 h1 l2 h2 : Nat) (hv : RowL w l1 h1 v zss) (hu : RowL w l2 h2 u zss) : Calls Try.prog 22 #[v, u] w (Gives (.bool true) w) := by
  rcases hv with ⟨rfl, a, cap, rfl, hc⟩ | ⟨b, cap, f, rfl, h0, hlc, hcm, _, _, hb, _, _, hL⟩
  · rcases hu with ⟨_, a2, cap2, rfl, hc2⟩ | ⟨_, _, _, _, h0, _⟩
    · unfold maxLen at hc hc2
      go_enter Try.func22, Try.ntmps22
      go_wp2
      go_loopw [5] (fun i wr => i = .int .i64 0 ∧ w = wr) (fun _ _ => 0)
      case atStart => exact ⟨rfl, rfl⟩
      case round =>
        obtain ⟨rfl, rfl⟩ := hrel
        go_wp2
        go_ret
        exact ⟨rfl, Below.refl _ _⟩
    · simp at h0
  · rcases hu with ⟨e, _⟩ | ⟨b2, cap2, f2, rfl, _, hlc2, hcm2, _, _, hb2, _, _, hL2⟩
    · rw [e] at h0; simp at h0
    · unfold maxLen at hcm hcm2
      have HL := hidH hL
      have HL2 := hidH hL2
      clear hL hL2
      go_enter Try.func22, Try.ntmps22
      go_wp2
      go_loopw [5] (fun i wr => ∃ k : Nat, k ≤ zss.length ∧ i = .int .i64 k ∧ Below w.heap.size w wr) (fun i _ => zss.length - (intOf i).toNat)
      case atStart => exact ⟨0, Nat.zero_le _, rfl, Below.refl _ _⟩
      case round =>
        obtain ⟨k, hk, rfl, hbw⟩ := hrel
        have HB := hidH hbw
        clear hbw
        by_cases hlt : k < zss.length
        · obtain ⟨zs, hz⟩ := get_lt zss k hlt
          obtain ⟨a, c1, hc, _, _, _, hr⟩ := HL.out k zs hz
          obtain ⟨a2, c2, hc2, _, _, _, hr2⟩ := HL2.out k zs hz
          have hcw : wr.cell? ⟨b, k, none⟩ = some (.slice a zs.length c1) := by rw [HB.out.cell (p := ⟨b, k, none⟩) hb]; exact hc
          have hcw2 : wr.cell? ⟨b2, k, none⟩ = some (.slice a2 zs.length c2) := by rw [HB.out.cell (p := ⟨b2, k, none⟩) hb2]; exact hc2
          have HE := hidH fun (W : World) (hb : Below w.heap.size w W) => (eqInts_yes (.slice a zs.length c1) (.slice a2 zs.length c2) zs W _ _ _ _ (hr.below hb).lies (hr2.below hb).lies).mono fun e w' (h : Gives _ W e w') => (⟨h.1, hb.trans (h.2.mono hb.size)⟩ : e = .returned (.bool true) ∧ Below w.heap.size w w')
          clear hz hc hc2 hr hr2
          go_wp2_with fail
          go_region_with (go_at_call 11; (with_reducible refine (HE.out _ (by first | exact HB.out | exact HB.out.drew)).mono ?_); rintro e w2 ⟨rfl, hbw⟩; have HB2 := hidH hbw; clear hbw)
          all_goals
            go_wp2_with fail
            go_roundw
            case rel => exact ⟨k + 1, by omega, by go_num, HB2.out⟩
            case measure => simp [intOf]; omega
        · obtain rfl : k = zss.length := by omega
          go_wp2
          go_ret
          exact ⟨rfl, HB.out⟩
/-- How many numbers rows have. -/
def sumL (zss : List (List Int)) : Nat := (zss.map List.length).sum
theorem sumL_take (zss : List (List Int)) (k : Nat) (zs : List Int) (h : zss[k]? = some zs) : sumL (zss.take (k + 1)) = sumL (zss.take k) + zs.length := by
  rw [List.take_add_one, h]
  simp [sumL]
theorem sumL_le (zss : List (List Int)) (m : Nat) (h : ∀ zs ∈ zss, zs.length ≤ m) : sumL zss ≤ zss.length * m := by
  induction zss with
  | nil => simp [sumL]
  | cons z r ih =>
    have h1 := ih (fun x hx => h x (List.mem_cons_of_mem _ hx))
    have h2 := h z List.mem_cons_self
    simp only [sumL, List.map_cons, List.sum_cons, List.length_cons, Nat.add_mul, Nat.one_mul] at h1 ⊢
    omega
/-- Rows that are marked one after the other from k on. -/
def upL (k : Int) : List (List Int) → List (List Int)
  | [] => []
  | z :: r => upFrom k z.length :: upL (k + z.length) r
theorem upL_length (zss : List (List Int)) : ∀ k, (upL k zss).length = zss.length := by
  induction zss with
  | nil => intro k; rfl
  | cons z r ih => intro k; simp [upL, ih]
theorem upL_get (zss : List (List Int)) : ∀ (k : Int) (j : Nat) zs, zss[j]? = some zs → (upL k zss)[j]? = some (upFrom (k + sumL (zss.take j)) zs.length) := by
  induction zss with
  | nil => intro k j zs h; simp at h
  | cons z r ih =>
    intro k j zs h
    cases j with
    | zero =>
      simp at h
      subst h
      simp [upL, sumL]
    | succ j =>
      have := ih (k + z.length) j zs (by simpa using h)
      simp only [upL, List.getElem?_cons_succ, this, List.take_succ_cons]
      congr 2
      simp only [sumL, List.map_cons, List.sum_cons]
      omega
/-- The first rows of a list replaced. -/
def overL (T zss : List (List Int)) (k : Nat) : List (List Int) := T.take k ++ zss.drop k
theorem overL_set (T zss : List (List Int)) (k : Nat) (x : List Int) (hl : T.length = zss.length) (h : T[k]? = some x) : (overL T zss k).set k x = overL T zss (k + 1) := by
  have hk := (List.getElem?_eq_some_iff.1 h).1
  have hl2 : (T.take k).length = k := by simp; omega
  unfold overL
  rw [List.set_append_right _ _ (by omega), hl2, Nat.sub_self, List.drop_eq_getElem_cons (by omega), List.set_cons_zero, List.take_add_one, h]
  simp
theorem overL_get (T zss : List (List Int)) (k : Nat) (hl : T.length = zss.length) (h : k < zss.length) : (overL T zss k)[k]? = zss[k]? := by
  unfold overL
  rw [List.getElem?_append_right (by simp; omega), List.length_take, Nat.min_eq_left (by omega), Nat.sub_self, List.getElem?_drop, Nat.add_zero]
theorem overL_all (T zss : List (List Int)) (hl : T.length = zss.length) : overL T zss zss.length = T := by
  unfold overL
  rw [List.drop_length, List.append_nil, List.take_of_length_le (by omega)]
theorem overL_zero (T zss : List (List Int)) : overL T zss 0 = zss := by simp [overL]
theorem overL_len (T zss : List (List Int)) (k : Nat) (hl : T.length = zss.length) (h : k ≤ zss.length) : (overL T zss k).length = zss.length := by simp [overL]; omega
/-- A row is written in its place. -/
theorem LRow.step {w w' : World} {b : Nat} {f : Nat → Nat} {zss : List (List Int)} {j : Nat} {zs ys : List Int} {a : Option Addr} {cap : Nat} (H : LRow w b f zss) (hb : b < w.heap.size) (hinj : ∀ i j, i < zss.length → j < zss.length → f i = f j → i = j) (hj : zss[j]? = some zs)
    (hcell : w.cell? ⟨b, j, none⟩ = some (.slice a zs.length cap)) (hlen : ys.length = zs.length) (hR : Row w' (f j) (f j + 1) (.slice a zs.length cap) ys) (hA : Apart (f j) (f j + 1) w w') : LRow w' b f (zss.set j ys) := by
  intro i xs hi
  have hjl := (List.getElem?_eq_some_iff.1 hj).1
  rw [List.getElem?_set] at hi
  by_cases e : j = i
  · subst e
    rw [if_pos rfl, if_pos hjl] at hi
    injection hi with hi
    subst hi
    obtain ⟨a1, c1, hc, hf, hne, hlt, hr⟩ := H j zs hj
    rw [hcell] at hc
    injection hc with hc
    injection hc with e1 e2 e3
    subst e1
    subst e3
    have hk := hA.block b hb (by omega)
    exact ⟨a, cap, by rw [World.cell?_of_block (w := w) hk, hlen]; exact hcell, by rw [World.frozen?_of_block (w := w) hk]; exact hf, hne, Nat.lt_of_lt_of_le hlt hA.size, by rw [hlen]; exact hR⟩
  · rw [if_neg e] at hi
    have hil := (List.getElem?_eq_some_iff.1 hi).1
    obtain ⟨a1, c1, hc, hf, hne, hlt, hr⟩ := H i xs hi
    obtain ⟨_, _, _, _, hnej, _, _⟩ := H j zs hj
    have hk := hA.block b hb (by omega)
    have hfi : f i ≠ f j := fun h => e (hinj j i hjl hil h.symm)
    exact ⟨a1, c1, by rw [World.cell?_of_block (w := w) hk]; exact hc, by rw [World.frozen?_of_block (w := w) hk]; exact hf, hne, Nat.lt_of_lt_of_le hlt hA.size, hr.apart hA (by omega)⟩
/-- A call that marks rows from k on. -/
def MarksL (v : Value) (lo hi n : Nat) (T : List (List Int)) (k : Int) (w : World) (e : Ending) (w' : World) : Prop := e = .returned (.int .i64 (k + n)) ∧ RowL w' lo hi v T ∧ Apart lo hi w w'
theorem markL_any (v : Value) (zss : List (List Int)) (k0 : Int) (w : World) (lo hi : Nat) (hv : RowL w lo hi v zss) (hk1 : 0 ≤ k0) (hk0 : k0 ≤ 1000) (hn : zss.length ≤ 1000) (hm : ∀ zs ∈ zss, zs.length ≤ 1000) : Calls Try.prog 23 #[v, .int .i64 k0] w (MarksL v lo hi (sumL zss) (upL k0 zss) k0 w) := by
  rcases hv with ⟨rfl, a, cap, rfl, hc⟩ | ⟨b, cap, f, rfl, h0, hlc, hcm, hlb, hhb, hb, hfb, hinj, hL⟩
  · unfold maxLen at hc
    go_enter Try.func23, Try.ntmps23
    go_wp2
    go_loopw [1, 5] (fun m i wr => i = .int .i64 0 ∧ m = .int .i64 k0 ∧ w = wr) (fun _ _ _ => 0)
    case atStart => exact ⟨rfl, rfl, rfl⟩
    case round =>
      obtain ⟨rfl, rfl, rfl⟩ := hrel
      go_wp2
      go_ret
      exact ⟨by simp [sumL], Or.inl ⟨rfl, a, cap, rfl, by unfold maxLen; omega⟩, Apart.of_below (Below.refl _ _)⟩
  · unfold maxLen at hcm
    have HL0 := hidH hL
    have HF := hidH hfb
    have HJ := hidH hinj
    have HM := hidH hm
    have HT := hidH (upL_length zss k0)
    have HG := hidH (upL_get zss k0)
    clear hL hfb hinj hm
    generalize upL k0 zss = T at *
    go_enter Try.func23, Try.ntmps23
    go_wp2
    go_loopw [1, 5] (fun m i wr => ∃ k : Nat, k ≤ zss.length ∧ i = .int .i64 k ∧ m = .int .i64 (k0 + sumL (zss.take k)) ∧ LRow wr b f (overL T zss k) ∧ b < wr.heap.size ∧ Apart lo hi w wr) (fun _ i _ => zss.length - (intOf i).toNat)
    case atStart => exact ⟨0, Nat.zero_le _, rfl, by simp [sumL], by rw [overL_zero]; exact HL0.out, hb, Apart.of_below (Below.refl _ _)⟩
    case round =>
      obtain ⟨k, hk, rfl, rfl, hL, hbr, ha⟩ := hrel
      have HL := hidH hL
      have HA := hidH ha
      clear hL ha HL0
      by_cases hlt : k < zss.length
      · obtain ⟨zs, hz⟩ := get_lt zss k hlt
        have hov := overL_get T zss k HT.out hlt
        rw [hz] at hov
        obtain ⟨a, c1, hc, _, hne, _, hr⟩ := HL.out k zs hov
        have HR := hidH hr
        have HOV := hidH hov
        have hgt := HG.out k zs hz
        have HGT := hidH hgt
        have hsum := sumL_take zss k zs hz
        have HSU := hidH hsum
        have hzl := HM.out zs (List.mem_of_getElem? hz)
        have hsl : sumL (zss.take k) ≤ 1000 * 1000 := by
          have h1 := sumL_le (zss.take k) 1000 (fun x hx => HM.out x (List.mem_of_mem_take hx))
          have h2 : (zss.take k).length * 1000 ≤ 1000 * 1000 := Nat.mul_le_mul_right _ (by rw [List.length_take]; omega)
          omega
        have HC := hidH hc
        have hfk := HF.out k hlt
        clear hz hov hr hgt hsum
        generalize sumL (zss.take k) = sm at *
        go_wp2_with fail
        refine (mark_any _ zs (k0 + (sm : Int)) wr _ _ HR.out (by omega) (by omega) (by omega)).mono ?_; rintro e w2 ⟨rfl, hr2, ha2⟩
        have HL2 := hidH (HL.out.step hbr (fun i j h1 h2 => HJ.out i j (by rw [overL_len T zss k HT.out hk] at h1; exact h1) (by rw [overL_len T zss k HT.out hk] at h2; exact h2)) HOV.out HC.out (upFrom_length _ _) hr2 ha2)
        have HA2 := hidH (HA.out.trans (show Apart lo hi wr w2 from ⟨ha2.os, ha2.tape, ha2.output, ha2.size, fun i hi1 hi2 => ha2.block i hi1 (by omega)⟩))
        have hb2 : b < w2.heap.size := Nat.lt_of_lt_of_le hbr ha2.size
        clear hr2 ha2
        go_wp2_with fail
        go_roundw
        case rel => exact ⟨k + 1, by omega, by go_num, by rw [HSU.out]; go_num, by rw [← overL_set T zss k _ HT.out HGT.out]; exact HL2.out, hb2, HA2.out⟩
        case measure => simp [intOf]; omega
      · obtain rfl : k = zss.length := by omega
        go_wp2
        go_ret
        have hL := HL.out
        rw [overL_all T zss HT.out] at hL
        refine ⟨by rw [List.take_length]; rfl, Or.inr ⟨b, cap, f, by rw [HT.out], by rw [HT.out]; exact h0, by rw [HT.out]; exact hlc, by unfold maxLen; omega, hlb, hhb, hbr, by rw [HT.out]; exact HF.out, by rw [HT.out]; exact HJ.out, hL⟩, HA.out⟩
theorem heldL_any (v : Value) (zss : List (List Int)) (k0 : Int) (w : World) (lo hi : Nat) (hv : RowL w lo hi v (upL k0 zss)) (hk1 : 0 ≤ k0) (hk0 : k0 ≤ 1000) (hn : zss.length ≤ 1000) (hm : ∀ zs ∈ zss, zs.length ≤ 1000) : Calls Try.prog 24 #[v, .int .i64 k0] w (Gives (.int .i64 (k0 + sumL zss)) w) := by
  have hTl := upL_length zss k0
  rcases hv with ⟨e, a, cap, rfl, hc⟩ | ⟨b, cap, f, rfl, h0, hlc, hcm, _, _, hb, _, _, hL⟩
  · have hz : zss = [] := by
      rw [e] at hTl
      exact List.eq_nil_of_length_eq_zero hTl.symm
    subst hz
    unfold maxLen at hc
    clear e hTl
    go_enter Try.func24, Try.ntmps24
    go_wp2
    go_loopw [1, 5] (fun m i wr => i = .int .i64 0 ∧ m = .int .i64 k0 ∧ w = wr) (fun _ _ _ => 0)
    case atStart => exact ⟨rfl, rfl, rfl⟩
    case round =>
      obtain ⟨rfl, rfl, rfl⟩ := hrel
      go_wp2
      go_ret
      exact ⟨by simp [sumL], Below.refl _ _⟩
  · rw [hTl] at h0 hlc ⊢
    unfold maxLen at hcm
    have HL := hidH hL
    have HM := hidH hm
    have HG := hidH (upL_get zss k0)
    clear hL hm hTl
    generalize upL k0 zss = T at *
    go_enter Try.func24, Try.ntmps24
    go_wp2
    go_loopw [1, 5] (fun m i wr => ∃ k : Nat, k ≤ zss.length ∧ i = .int .i64 k ∧ m = .int .i64 (k0 + sumL (zss.take k)) ∧ Below w.heap.size w wr) (fun _ i _ => zss.length - (intOf i).toNat)
    case atStart => exact ⟨0, Nat.zero_le _, rfl, by simp [sumL], Below.refl _ _⟩
    case round =>
      obtain ⟨k, hk, rfl, rfl, hbw⟩ := hrel
      have HB := hidH hbw
      clear hbw
      by_cases hlt : k < zss.length
      · obtain ⟨zs, hz⟩ := get_lt zss k hlt
        obtain ⟨a, c1, hc, _, _, _, hr⟩ := HL.out k _ (HG.out k zs hz)
        rw [upFrom_length] at hc hr
        have hcw : wr.cell? ⟨b, k, none⟩ = some (.slice a zs.length c1) := by rw [HB.out.cell (p := ⟨b, k, none⟩) hb]; exact hc
        have HSU := hidH (sumL_take zss k zs hz)
        have hzl := HM.out zs (List.mem_of_getElem? hz)
        have hsl : sumL (zss.take k) ≤ 1000 * 1000 := by
          have h1 := sumL_le (zss.take k) 1000 (fun x hx => HM.out x (List.mem_of_mem_take hx))
          have h2 : (zss.take k).length * 1000 ≤ 1000 * 1000 := Nat.mul_le_mul_right _ (by rw [List.length_take]; omega)
          omega
        have HR := hidH (hr.below HB.out)
        clear hz hc hr
        generalize sumL (zss.take k) = sm at *
        go_wp2_with fail
        refine (held_any _ (k0 + (sm : Int)) zs.length wr _ _ HR.out.lies (by omega) (by omega) (by omega)).mono ?_; rintro e w2 ⟨rfl, hbw⟩
        have HB2 := hidH (HB.out.trans (hbw.mono HB.out.size))
        clear hbw
        go_wp2_with fail
        go_roundw
        case rel => exact ⟨k + 1, by omega, by go_num, by rw [HSU.out]; go_num, HB2.out⟩
        case measure => simp [intOf]; omega
      · obtain rfl : k = zss.length := by omega
        go_wp2
        go_ret
        exact ⟨by rw [List.take_length]; rfl, HB.out⟩
end Go.Proofs.Ytolhpghhaepfnaa
