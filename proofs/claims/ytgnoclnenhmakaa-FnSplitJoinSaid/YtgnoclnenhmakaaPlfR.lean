/-
  Rows of segments, each with a row of its own, wherever they lie: marks. Condition: not more numbers than the laws let through.
  GreedyPlan: the program, the whole plan. No conditions but that slices fit in memory.
  The model's copy of a row of segments. Condition: not more numbers than the laws let through.
  GreedyPlan: the model. No conditions but that slices fit in memory.
-/
import Derived.Test.YtgnoclnenhmakaaPlanSg
import Derived.Laws.AppendOwn
import Derived.Test.YtgnoclnenhmakaaPlfM
import Derived.Laws.AppendOwnNone
import Derived.Test.YtgnoclnenhmakaaPlfB
namespace Go.Proofs.Ytgnoclnenhmakaa
set_option maxRecDepth 4000
open Go.RowKit
/-- The slice v is a row of the call's own that holds these segments, each with a row of its own, apart from the others and from the segments themselves. -/
def ApSg (w : World) (lo hi : Nat) (v : Value) (cs : List (Int × List Int)) : Prop := ∃ (a : Option Addr) (cap : Nat) (L H : Nat → Nat), v = .slice a cs.length cap ∧ cs.length ≤ cap ∧ cap ≤ maxLen ∧ (a = none → cap = 0) ∧ (∀ i j, i < j → j < cs.length → H i ≤ L j) ∧
  ∀ (j : Nat) c zs, cs[j]? = some (c, zs) → ∃ b u, a = some ⟨b, 0, none⟩ ∧ lo ≤ b ∧ b < hi ∧ (b < L j ∨ H j ≤ b) ∧ lo ≤ L j ∧ H j ≤ hi ∧ w.cell? ⟨b, j * 2, none⟩ = some (.int .i64 c) ∧ w.frozen? ⟨b, j * 2, none⟩ = false ∧ w.cell? ⟨b, j * 2 + 1, none⟩ = some u ∧ w.frozen? ⟨b, j * 2 + 1, none⟩ = false ∧ Row w (L j) (H j) u zs
theorem ApSg.lies {w : World} {lo hi : Nat} {v : Value} {cs : List (Int × List Int)} (h : ApSg w lo hi v cs) : LiesSg w hi v cs := by
  obtain ⟨a, cap, L, H, h1, h2, h3, h4, hL, h5⟩ := h
  refine ⟨a, cap, h1, h2, h3, h4, fun j c zs hj => ?_⟩
  obtain ⟨b, u, e, b1, b2, b3, b4, b5, c0, f0, c1, f1, hr⟩ := h5 j c zs hj
  exact ⟨b, 0, u, e, b2, by rw [Nat.zero_add]; exact c0, by rw [Nat.zero_add]; exact c1, hr.lies.mono (Nat.zero_le _) b5⟩
theorem ApSg.apart {w w' : World} {lo hi l h : Nat} {v : Value} {cs : List (Int × List Int)} (X : ApSg w l h v cs) (hA : Apart lo hi w w') (hd : h ≤ lo ∨ hi ≤ l) : ApSg w' l h v cs := by
  obtain ⟨a, cap, L, H, h1, h2, h3, h4, hL, h5⟩ := X
  refine ⟨a, cap, L, H, h1, h2, h3, h4, hL, fun j c zs hj => ?_⟩
  obtain ⟨b, u, e, b1, b2, b3, b4, b5, c0, f0, c1, f1, hr⟩ := h5 j c zs hj
  have hb := cell_blk _ _ _ c0
  have hk := hA.block b hb (by omega)
  exact ⟨b, u, e, b1, b2, b3, b4, b5, by rw [World.cell?_of_block (w := w) hk]; exact c0, by rw [World.frozen?_of_block (w := w) hk]; exact f0, by rw [World.cell?_of_block (w := w) hk]; exact c1, by rw [World.frozen?_of_block (w := w) hk]; exact f1, hr.apart hA (by omega)⟩
theorem ApSg.below {w w' : World} {l h : Nat} {v : Value} {cs : List (Int × List Int)} (H : ApSg w l h v cs) (hb : Below w.heap.size w w') : ApSg w' l h v cs := H.apart (lo := h) (hi := h) (Apart.of_below hb) (.inl (Nat.le_refl _))
theorem ApSg.mono {w : World} {l h l2 h2 : Nat} {v : Value} {cs : List (Int × List Int)} (X : ApSg w l h v cs) (h1 : l2 ≤ l) (h3 : h ≤ h2) : ApSg w l2 h2 v cs := by
  obtain ⟨a, cap, L, H, e1, e2, e3, e4, hL, h5⟩ := X
  refine ⟨a, cap, L, H, e1, e2, e3, e4, hL, fun j c zs hj => ?_⟩
  obtain ⟨b, u, e, b1, b2, b3, b4, b5, r⟩ := h5 j c zs hj
  exact ⟨b, u, e, by omega, by omega, b3, by omega, by omega, r⟩
theorem ApSg.nil (w : World) (lo hi : Nat) (a : Option Addr) (cap : Nat) (hc : cap ≤ maxLen) (ha : a = none → cap = 0) : ApSg w lo hi (.slice a 0 cap) [] := ⟨a, cap, fun _ => 0, fun _ => 0, rfl, Nat.zero_le _, hc, ha, fun _ _ _ _ => Nat.le_refl _, fun _ _ _ h => by simp at h⟩
theorem ApSg.form {w : World} {lo hi : Nat} {v : Value} {cs : List (Int × List Int)} (h : ApSg w lo hi v cs) : ∃ a cap, v = .slice a cs.length cap ∧ cs.length ≤ cap ∧ cap ≤ maxLen := by
  obtain ⟨a, cap, L, H, h1, h2, h3, _⟩ := h
  exact ⟨a, cap, h1, h2, h3⟩
/-- .. with an outer row before all others. -/
theorem RowSg.ap {w : World} {lo hi : Nat} {v : Value} {cs : List (Int × List Int)} (h : RowSg w lo hi v cs) : ApSg w lo hi v cs := by
  obtain ⟨a, cap, L, h1, h2, h3, h4, hL, hlo, hhi, h5⟩ := h
  have hm := mono_to hL
  refine ⟨a, cap, L, fun j => L (j + 1), h1, h2, h3, h4, fun i j hij hj => hm (i + 1) j hij (by omega), fun j c zs hj => ?_⟩
  obtain ⟨b, u, e, b1, b2, b3, r⟩ := h5 j c zs hj
  have hjl := (List.getElem?_eq_some_iff.1 hj).1
  exact ⟨b, u, e, b1, b2, .inl (Nat.lt_of_lt_of_le b3 (hm 0 j (Nat.zero_le _) (by omega))), Nat.le_trans hlo (hm 0 j (Nat.zero_le _) (by omega)), Nat.le_trans (hm (j + 1) cs.length (by omega) (Nat.le_refl _)) hhi, r⟩
theorem Row.grownA {w w' : World} {lo hi : Nat} {v : Value} {zs : List Int} {row : Option Nat} (H : Row w lo hi v zs) (hg : w.grownBy w' row) (hr : ∀ g, row = Option.some g → g < lo ∨ hi ≤ g) : Row w' lo hi v zs := by
  obtain ⟨a, cap, h1, h2, h3, h4, h5⟩ := H
  refine ⟨a, cap, h1, h2, h3, h4, fun j z hj => ?_⟩
  obtain ⟨b, e, x, y, hc, hf⟩ := h5 j z hj
  have hb := cell_blk _ _ _ hc
  have hk := hg.block b hb (fun e => by have := hr b e.symm; omega)
  exact ⟨b, e, x, y, by rw [World.cell?_of_block (w := w) hk]; exact hc, by rw [World.frozen?_of_block (w := w) hk]; exact hf⟩
/-- A call that answers a new row of segments, and a truth. -/
def NewApB (cs : List (Int × List Int)) (t : Bool) (w : World) (e : Ending) (w' : World) : Prop := ∃ v, e = .returned (.tuple #[v, .bool t]) ∧ ApSg w' w.heap.size w'.heap.size v cs ∧ Below w.heap.size w w'
/-- The segments lie in block b, with rows of their own. -/
def SgA2 (w : World) (lo hi b : Nat) (L H : Nat → Nat) (cs : List (Int × List Int)) : Prop := ∀ (j : Nat) c zs, cs[j]? = some (c, zs) → ∃ u, (b < L j ∨ H j ≤ b) ∧ lo ≤ L j ∧ H j ≤ hi ∧ w.cell? ⟨b, j * 2, none⟩ = some (.int .i64 c) ∧ w.frozen? ⟨b, j * 2, none⟩ = false ∧ w.cell? ⟨b, j * 2 + 1, none⟩ = some u ∧ w.frozen? ⟨b, j * 2 + 1, none⟩ = false ∧ Row w (L j) (H j) u zs
theorem ApSg.at {w : World} {lo hi : Nat} {v : Value} {cs : List (Int × List Int)} (h : ApSg w lo hi v cs) (h0 : 0 < cs.length) : ∃ b cap L H, v = .slice (some ⟨b, 0, none⟩) cs.length cap ∧ cs.length ≤ cap ∧ cap ≤ maxLen ∧ (∀ i j, i < j → j < cs.length → H i ≤ L j) ∧ lo ≤ b ∧ b < hi ∧ SgA2 w lo hi b L H cs := by
  obtain ⟨a, cap, L, H, h1, h2, h3, h4, hL, h5⟩ := h
  obtain ⟨b, u, e, b1, b2, b3, _⟩ := h5 0 (cs[0]'h0).1 (cs[0]'h0).2 (List.getElem?_eq_getElem h0)
  subst e
  refine ⟨b, cap, L, H, h1, h2, h3, hL, b1, b2, fun j c zs hj => ?_⟩
  obtain ⟨b', u', e, _, _, r1, r2, r3, c0, f0, c1, f1, hr⟩ := h5 j c zs hj
  injection e with e
  injection e with e
  subst e
  exact ⟨u', r1, r2, r3, c0, f0, c1, f1, hr⟩
theorem SgA2.row {w : World} {lo hi b n cap : Nat} {L H : Nat → Nat} {cs : List (Int × List Int)} (h : SgA2 w lo hi b L H cs) (hn : n = cs.length) (h2 : cs.length ≤ cap) (h3 : cap ≤ maxLen) (hL : ∀ i j, i < j → j < cs.length → H i ≤ L j) (b1 : lo ≤ b) (b2 : b < hi) : ApSg w lo hi (.slice (some ⟨b, 0, none⟩) n cap) cs :=
  ⟨some ⟨b, 0, none⟩, cap, L, H, by rw [hn], h2, h3, (fun e => by cases e), hL, fun j c zs hj => by
    obtain ⟨u, r1, r2, r3, c0, f0, c1, f1, hr⟩ := h j c zs hj
    exact ⟨b, u, rfl, b1, b2, r1, r2, r3, c0, f0, c1, f1, hr⟩⟩
/-- One segment is written anew: its number, and then its row. -/
theorem SgA2.upd {w w' : World} {lo hi b k : Nat} {L H : Nat → Nat} {cs : List (Int × List Int)} {c : Int} {zs : List Int} {u : Value} (h : SgA2 w lo hi b L H cs) (hL : ∀ i j, i < j → j < cs.length → H i ≤ L j) (hk : cs[k]? = some (c, zs)) (hu : w.cell? ⟨b, k * 2 + 1, none⟩ = some u) (d : Int) (ys : List Int)
    (hA : Apart (L k) (H k) (w.setCell ⟨b, k * 2, none⟩ (.int .i64 d)) w') (hr : Row w' (L k) (H k) u ys) : SgA2 w' lo hi b L H (cs.set k (d, ys)) := by
  intro j c' zs' hj
  have hkl := (List.getElem?_eq_some_iff.1 hk).1
  have hjl : j < cs.length := by have := (List.getElem?_eq_some_iff.1 hj).1; rwa [List.length_set] at this
  obtain ⟨u0, r1, r2, r3, k0, kf, k1, kf1, kr⟩ := h k c zs hk
  have hbw : b < w.heap.size := cell_blk _ _ _ k0
  have hblk := hA.block b (by simpa using hbw) (by omega)
  have hcell (i : Nat) : w'.cell? ⟨b, i, none⟩ = (w.setCell ⟨b, k * 2, none⟩ (.int .i64 d)).cell? ⟨b, i, none⟩ := World.cell?_of_block (a := ⟨b, i, none⟩) hblk
  have hfro (i : Nat) : w'.frozen? ⟨b, i, none⟩ = (w.setCell ⟨b, k * 2, none⟩ (.int .i64 d)).frozen? ⟨b, i, none⟩ := World.frozen?_of_block (a := ⟨b, i, none⟩) hblk
  by_cases e : j = k
  · subst e
    rw [List.getElem?_set_self hkl] at hj
    injection hj with hj
    injection hj with e1 e2
    subst e1; subst e2
    refine ⟨u, r1, r2, r3, ?_, ?_, ?_, ?_, hr⟩
    · rw [hcell]; exact World.cell?_setCell_same _ _ _ k0
    · rw [hfro]; simpa using kf
    · rw [hcell, World.cell?_setCell_other _ _ _ _ (by intro h; injection h; omega)]; exact hu
    · rw [hfro]; simpa using kf1
  · rw [List.getElem?_set_ne (fun h => e h.symm)] at hj
    obtain ⟨u', s1, s2, s3, g0, gf, g1, gf1, gr⟩ := h j c' zs' hj
    refine ⟨u', s1, s2, s3, ?_, ?_, ?_, ?_, ?_⟩
    · rw [hcell, World.cell?_setCell_other _ _ _ _ (by intro h; injection h; omega)]; exact g0
    · rw [hfro]; simpa using gf
    · rw [hcell, World.cell?_setCell_other _ _ _ _ (by intro h; injection h; omega)]; exact g1
    · rw [hfro]; simpa using gf1
    · refine (gr.apart (Apart.of_onto (lo := b) (hi := b + 1) (Onto.setCell b (k * 2) w _) (Nat.le_refl _) (Nat.lt_succ_self _)) (by omega)).apart hA ?_
      rcases Nat.lt_or_gt_of_ne e with h | h
      · exact .inl (hL j k h hkl)
      · exact .inr (hL k j h hjl)
end Go.Proofs.Ytgnoclnenhmakaa
namespace Go.Proofs.Ytgnoclnenhmakaa
set_option maxRecDepth 4000
open Go.RowKit
/-- What stands in a row of segments that grows: numbers, and rows of the call's own that lie apart from each other, up to m, and from the row itself. -/
def InSg (w : World) (base m : Nat) (ov : Value) (us : List Value) (cs : List (Int × List Int)) : Prop := us.length = cs.length * 2 ∧ m ≤ w.heap.size ∧ ∃ L H : Nat → Nat, (∀ i j, i < j → j < cs.length → H i ≤ L j) ∧ (∀ j, j < cs.length → base ≤ L j ∧ H j ≤ m ∧ ∀ g, ov.ownBlock = some g → g < L j ∨ H j ≤ g) ∧
  ∀ (j : Nat) c zs, cs[j]? = some (c, zs) → ∃ u, us[j * 2]? = some (.int .i64 c) ∧ us[j * 2 + 1]? = some u ∧ Row w (L j) (H j) u zs
theorem InSg.nil (w : World) (base m : Nat) (ov : Value) (hm : m ≤ w.heap.size) : InSg w base m ov [] [] := ⟨rfl, hm, fun _ => 0, fun _ => 0, fun _ _ _ _ => Nat.le_refl _, fun _ h => absurd h (Nat.not_lt_zero _), fun _ _ _ h => by simp at h⟩
theorem InSg.below {w w' : World} {base m : Nat} {ov : Value} {us : List Value} {cs : List (Int × List Int)} (X : InSg w base m ov us cs) (hb : Below w.heap.size w w') : InSg w' base m ov us cs := by
  obtain ⟨h1, h2, L, H, h3, h4, h5⟩ := X
  refine ⟨h1, Nat.le_trans h2 hb.size, L, H, h3, h4, fun j c zs hj => ?_⟩
  obtain ⟨u, e1, e2, e3⟩ := h5 j c zs hj
  exact ⟨u, e1, e2, e3.below hb⟩
/-- One more segment is appended. -/
theorem InSg.snoc {w w' : World} {base m l h g : Nat} {ov ov' u : Value} {us : List Value} {cs : List (Int × List Int)} {c : Int} {zs : List Int} (X : InSg w base m ov us cs) (hg : w.grownBy w' ov.ownBlock) (hs : w.heap.size ≤ w'.heap.size) (ho : ov'.ownBlock = some g) (hat : ov.ownBlock = some g ∨ w.heap.size ≤ g)
    (hu : Row w l h u zs) (hml : m ≤ l) (hlh : l ≤ h) (hh : h ≤ w.heap.size) (hb : base ≤ l) (hl : ∀ g, ov.ownBlock = some g → g < l) : InSg w' base h ov' (us ++ [.int .i64 c, u]) (cs ++ [(c, zs)]) := by
  obtain ⟨h1, h2, L, H, h3, h4, h5⟩ := X
  refine ⟨by simp [h1]; omega, Nat.le_trans hh hs, fun j => if j < cs.length then L j else l, fun j => if j < cs.length then H j else h, fun i j hij hj => ?_, fun j hj => ?_, fun j c' ys hj => ?_⟩
  · simp at hj
    by_cases c1 : j < cs.length
    · simp [c1, show i < cs.length by omega]; exact h3 i j hij c1
    · simp [c1, show i < cs.length by omega]; have := (h4 i (by omega)).2.1; omega
  · simp at hj
    by_cases c1 : j < cs.length
    · simp only [c1, if_true]
      obtain ⟨q1, q2, q3⟩ := h4 j c1
      refine ⟨q1, by omega, fun k hk => ?_⟩
      rw [ho] at hk
      injection hk with hk
      subst hk
      rcases hat with e | e
      · exact q3 _ e
      · exact .inr (by omega)
    · simp only [c1, if_false]
      refine ⟨hb, Nat.le_refl _, fun k hk => ?_⟩
      rw [ho] at hk
      injection hk with hk
      subst hk
      rcases hat with e | e
      · exact .inl (hl _ e)
      · exact .inr (by omega)
  · by_cases c1 : j < cs.length
    · rw [List.getElem?_append_left c1] at hj
      obtain ⟨v, e1, e2, e3⟩ := h5 j c' ys hj
      obtain ⟨q1, q2, q3⟩ := h4 j c1
      simp only [c1, if_true]
      exact ⟨v, by rw [List.getElem?_append_left (by omega)]; exact e1, by rw [List.getElem?_append_left (by omega)]; exact e2, e3.grownA hg q3⟩
    · have hje : j = cs.length := by
        have := (List.getElem?_eq_some_iff.1 hj).1
        simp at this
        omega
      subst hje
      rw [List.getElem?_append_right (Nat.le_refl _), Nat.sub_self] at hj
      injection hj with hj
      injection hj with hj1 hj2
      subst hj1 hj2
      simp only [Nat.lt_irrefl, if_false]
      refine ⟨u, by rw [List.getElem?_append_right (by omega), show cs.length * 2 - us.length = 0 by omega]; rfl, by rw [List.getElem?_append_right (by omega), show cs.length * 2 + 1 - us.length = 1 by omega]; rfl, hu.grownA hg (fun k hk => .inl (hl k hk))⟩
/-- .. and what the row holds is a row of segments of the call's own. -/
theorem InSg.ap {w : World} {base m e n : Nat} {ov : Value} {us : List Value} {cs : List (Int × List Int)} (X : InSg w base m ov us cs) (hown : w.ownsRow base e 2 ov n us) : ApSg w base w.heap.size ov cs := by
  obtain ⟨h1, h2, L, H, h3, h4, h5⟩ := X
  obtain ⟨hl, hv⟩ := hown
  have hn : n = cs.length := by omega
  subst hn
  rcases hv with ⟨rfl, h0⟩ | ⟨g, cap, cur, rfl, hg, hh, hn, hc, hsz, ht⟩
  · obtain rfl : cs = [] := List.eq_nil_of_length_eq_zero h0
    exact ApSg.nil w base _ none 0 (Nat.zero_le _) (fun _ => rfl)
  · have hlt : g < w.heap.size := (Array.getElem?_eq_some_iff.1 hh).1
    refine ⟨some ⟨g, 0, none⟩, cap, L, H, rfl, hn, hc, (fun e => by cases e), h3, fun j c zs hj => ?_⟩
    have hjl := (List.getElem?_eq_some_iff.1 hj).1
    obtain ⟨u, e1, e2, e3⟩ := h5 j c zs hj
    obtain ⟨q1, q2, q3⟩ := h4 j hjl
    rw [← ht, List.getElem?_take, if_pos (by omega), Array.getElem?_toList] at e1 e2
    exact ⟨g, u, rfl, hg, hlt, q3 g rfl, q1, Nat.le_trans q2 h2, by simp [World.cell?, hh, e1], by simp [World.frozen?, hh], by simp [World.cell?, hh, e2], by simp [World.frozen?, hh], e3⟩
/-! ### The plan by longest runs -/
def plF (zs : List Int) (d : Nat) : Nat → Nat → List (Int × List Int)
  | 0, _ => []
  | f + 1, j => if j < zs.length then ((longN (d + 1) (zs.drop j) : Nat), segP zs (j : Int) (longN (d + 1) (zs.drop j) : Nat) (d : Int)) :: plF zs d f (nxZ (d + 1) zs j) else []
theorem plF_fuel (zs : List Int) (d f g i : Nat) (hf : zs.length - i ≤ f) (hg : zs.length - i ≤ g) : plF zs d f i = plF zs d g i := by
  have h := nxZ_fwd (d + 1) zs (by omega)
  induction f generalizing g i with
  | zero =>
    have : ¬ i < zs.length := by omega
    cases g with
    | zero => rfl
    | succ g => rw [plF, plF, if_neg this]
  | succ f ih =>
    cases g with
    | zero =>
      have : ¬ i < zs.length := by omega
      rw [plF, plF, if_neg this]
    | succ g =>
      rw [plF, plF]
      by_cases c : i < zs.length
      · rw [if_pos c, if_pos c]
        have := h.lt i c
        rw [ih g (nxZ (d + 1) zs i) (by omega) (by omega)]
      · rw [if_neg c, if_neg c]
/-- .. from a place on. -/
def plG (zs : List Int) (d i : Nat) : List (Int × List Int) := plF zs d zs.length i
theorem plG_end (zs : List Int) (d i : Nat) (hi : zs.length ≤ i) : plG zs d i = [] := by
  unfold plG
  cases h : zs.length with
  | zero => rfl
  | succ n => rw [plF, if_neg (by omega)]
theorem plG_step (zs : List Int) (d i : Nat) (hi : i < zs.length) : plG zs d i = (((longN (d + 1) (zs.drop i) : Nat) : Int), segP zs (i : Int) (longN (d + 1) (zs.drop i) : Nat) (d : Int)) :: plG zs d (nxZ (d + 1) zs i) := by
  have h := (nxZ_fwd (d + 1) zs (by omega)).lt i hi
  unfold plG
  have e : plF zs d zs.length i = plF zs d (zs.length + 1) i := plF_fuel zs d _ _ i (by omega) (by omega)
  rw [e, plF, if_pos hi]
theorem plF_len (zs : List Int) (d f i : Nat) : (plF zs d f i).length = gC (nxZ (d + 1) zs) zs.length f i := by
  induction f generalizing i with
  | zero => rfl
  | succ f ih =>
    rw [plF, gC]
    by_cases c : i < zs.length
    · rw [if_pos c, if_pos c, List.length_cons, ih]; omega
    · rw [if_neg c, if_neg c]; rfl
theorem plG_len (zs : List Int) (d i : Nat) : (plG zs d i).length = gN (nxZ (d + 1) zs) zs.length i := plF_len zs d _ i
/-- What GreedyPlan answers. -/
def greedyG (zs : List Int) (d : Int) : List (Int × List Int) := if smallOk zs && degOk d then plG zs d.toNat 0 else []
theorem greedyG_no1 (zs : List Int) (d : Int) (h : smallOk zs = false) : greedyG zs d = [] := by unfold greedyG; rw [h]; rfl
theorem greedyG_no2 (zs : List Int) (d : Int) (h : degOk d = false) : greedyG zs d = [] := by unfold greedyG; rw [h, Bool.and_false]; rfl
theorem greedyG_yes (zs : List Int) (d : Int) (h : smallOk zs = true) (k : degOk d = true) : greedyG zs d = plG zs d.toNat 0 := by unfold greedyG; rw [h, k]; rfl
theorem greedyG_len (zs : List Int) (d : Int) (h : (smallOk zs && degOk d) = true) : (greedyG zs d).length = fewN (d.toNat + 1) zs := by
  unfold greedyG
  rw [h, if_pos rfl, plG_len]; rfl
/-- A call that answers a new row of segments. -/
def NewAp (cs : List (Int × List Int)) (w : World) (e : Ending) (w' : World) : Prop := ∃ v, e = .returned v ∧ ApSg w' w.heap.size w'.heap.size v cs ∧ Below w.heap.size w w'
set_option maxHeartbeats 3200000 in
theorem planByW_any (b1 b2 : Nat) (av : Option Addr) (cap : Nat) (zs : List Int) (d : Nat) (w : World) (lo hi : Nat) (hv : Lies w lo hi (.slice av zs.length cap) zs) (h1 : w.cell? ⟨b1, 0, none⟩ = some (.slice av zs.length cap)) (h2 : w.cell? ⟨b2, 0, none⟩ = some (.int .i64 (d : Int))) (hs : smallOk zs = true) (hd : degOk (d : Int) = true) :
    Calls Try.prog 42 #[.slice av zs.length cap, .int .i64 (d : Int), .func (.func 47) #[] #[.pointer (some ⟨b1, 0, none⟩), .pointer (some ⟨b2, 0, none⟩)]] w (NewAp (plG zs d 0) w) := by
  have ⟨hl1, hl60, _⟩ := (small_iff zs).1 hs
  have hd6 : d ≤ 6 := by unfold degOk at hd; have := of_decide_eq_true hd; omega
  obtain ⟨i0, hi0, hz0, hz1, hz2⟩ := info_parts info_sg
  have HV := hidH hv
  have H1 := hidH h1
  have H2 := hidH h2
  have l1 := cell_blk _ _ _ h1
  have l2 := cell_blk _ _ _ h2
  have HF := hidH (nxZ_fwd (d + 1) zs (by omega))
  have HSC := hidH (fun k hk => seg_run zs d k hs hd hk)
  obtain ⟨_, _, e, hlc, hcm, _, _⟩ := hv
  injection e with e1 _ e3
  subst e1 e3
  unfold maxLen at hcm
  clear h1 h2
  go_enter Try.func42, Try.ntmps42
  go_wp2_with fail
  go_loopw [7, 8] (fun o i wr => ∃ (j k m : Nat) (ov : Value) (xs : List Value) (cs : List (Int × List Int)), j ≤ zs.length ∧ i = .int .i64 j ∧ ov = o ∧ k ≤ j ∧ Aside (cs.length = k ∧ cs ++ plG zs d j = plG zs d 0) ∧ wr.ownsRow w.heap.size 39 2 ov k xs ∧ InSg wr w.heap.size m ov xs cs ∧ Below w.heap.size w wr) (fun _ i _ => zs.length - (intOf i).toNat)
  case atStart => exact ⟨0, 0, w.heap.size, _, [], [], Nat.zero_le _, rfl, rfl, Nat.le_refl _, ⟨rfl, rfl⟩, ⟨rfl, Or.inl ⟨rfl, rfl⟩⟩, InSg.nil _ _ _ _ (Nat.le_refl _), Below.refl _ _⟩
  case round =>
    obtain ⟨j, k, m, ov, xs, cs, hj, rfl, rfl, hkj, hg, hown, hin, hb⟩ := hrel
    have HG := hidH hg
    have HW := hidH hown
    have HI := hidH hin
    have HBq := hidH hb
    clear hg hown hin hb
    by_cases hlt : j < zs.length
    · have c1 : wr.cell? ⟨b1, 0, none⟩ = some (.slice av zs.length cap) := by rw [HBq.out.cell (p := ⟨b1, 0, none⟩) l1]; exact H1.out
      have c2 : wr.cell? ⟨b2, 0, none⟩ = some (.int .i64 (d : Int)) := by rw [HBq.out.cell (p := ⟨b2, 0, none⟩) l2]; exact H2.out
      have HVr := hidH (HV.out.below HBq.out)
      have HRA := hidH (runAt_any b1 b2 av cap zs d j wr _ _ HVr.out c1 c2 hd6 hl60 hlt)
      have HSCj := hidH (HSC.out j hlt)
      have hp1 := HF.out.lt j hlt
      have hp2 := HF.out.le j hlt
      have HST := hidH (plG_step zs d j hlt)
      have HNX := hidH (show nxZ (d + 1) zs j = j + longN (d + 1) (zs.drop j) from rfl)
      rw [HNX.out] at hp1 hp2
      generalize longN (d + 1) (zs.drop j) = cn at *
      clear c1 c2
      go_wp2_with fail
      refine HRA.out.mono ?_; rintro e w2 ⟨rfl, hb⟩
      have HV2 := hidH (HVr.out.below hb)
      have HW2 := hidH (owns_below HW.out hb)
      have HI2 := hidH (HI.out.below hb)
      have hs2 := hb.size
      have HB2 := hidH (bThen HBq.out hb)
      clear hb HRA HW HVr HI
      go_wp2_with fail
      refine (segOf_any _ zs (j : Int) (cn : Int) (d : Int) w2 _ _ HV2.out).mono ?_; rintro e w3 ⟨pv, rfl, hr, hb⟩
      rw [HSCj.out]
      obtain ⟨pa, pcap, rfl⟩ := hr.some
      have HW3 := hidH (owns_below HW2.out hb)
      have HI3 := hidH (HI2.out.below hb)
      have HRP := hidH hr
      have HOL := hidH (fun g hg => (HW2.out.lt g hg).2)
      have HBS := hidH HB2.out.size
      have HMI := hidH HI2.out.2.1
      have HS3 := hidH hb.size
      have HB3 := hidH (bThen HB2.out hb)
      clear hb hr HW2 HV2 HSCj HI2
      generalize hpl : (segP zs (j : Int) (cn : Int) (d : Int)).length = pl at *
      have HPL := hidH hpl
      clear hpl
      have HZ := hidH (SegAt.fresh w3 0 (.slice none 0 0))
      have HZ4 := hidH ((SegAt.fresh w3 0 (.slice none 0 0)).setRow (cn : Int) (.slice pa pl pcap))
      have hsz3 := HB3.out.size
      have HW4 := hidH (owns_below HW3.out (show Below w3.heap.size w3 ((w3.alloc (.cells #[.int .i64 0, .slice none 0 0] 39)).setRow w3.heap.size #[.int .i64 (cn : Int), .slice pa pl pcap]) from bRow ((Below.refl _ _).alloc (Nat.le_refl _) _) (Nat.le_refl _) _))
      have hB34 : Below w3.heap.size w3 ((w3.alloc (.cells #[.int .i64 0, .slice none 0 0] 39)).setRow w3.heap.size #[.int .i64 (cn : Int), .slice pa pl pcap]) := bRow ((Below.refl _ _).alloc (Nat.le_refl _) _) (Nat.le_refl _) _
      have HI4 := hidH (HI3.out.below hB34)
      have HRP4 := hidH (HRP.out.below hB34)
      have HS4 := hidH hB34.size
      clear hB34 HI3 HRP
      have HB4 := hidH (bRow (bMore HB3.out (.cells #[.int .i64 0, .slice none 0 0] 39)) hsz3 #[.int .i64 (cn : Int), .slice pa pl pcap])
      have SZ := hidH (seg_size (cn : Int) (.slice pa pl pcap))
      have SO := hidH (seg_one (cn : Int) pa pl pcap)
      go_upto_region 5 with (refine wpList_store_row rfl 39 _ _ rfl w3.heap.size #[.int .i64 (cn : Int), .slice pa pl pcap] rfl rfl 39 _ HZ.out SZ.out rfl SO.out ?_)
      generalize ((w3.alloc (.cells #[.int .i64 0, .slice none 0 0] 39)).setRow w3.heap.size #[.int .i64 (cn : Int), .slice pa pl pcap]) = w4 at *
      have hsz4 := HB4.out.size
      have hk60 : k ≤ 60 := by omega
      have hB45 : Below w4.heap.size w4 (w4.alloc (.cells #[.int .i64 (cn : Int), .slice pa pl pcap] 39)) := (Below.refl _ w4).alloc (Nat.le_refl _) _
      have HI5 := hidH (HI4.out.below hB45)
      have HRP5 := hidH (HRP4.out.below hB45)
      have HS5 := hidH hB45.size
      clear hB45 HI4 HRP4
      have HW5 := hidH (owns_below HW4.out ((Below.refl _ w4).alloc (Nat.le_refl _) (.cells #[.int .i64 (cn : Int), .slice pa pl pcap] 39)))
      have HNW := hidH (World.news_of_block (cs := #[.int .i64 (cn : Int), .slice pa pl pcap]) (t := 39) (fr := (0, 0)) (heap_alloc_new w4 (.cells #[.int .i64 (cn : Int), .slice pa pl pcap] 39)))
      have HZ5 := hidH (HZ4.out.below ((Below.refl _ w4).alloc (Nat.le_refl _) (.cells #[.int .i64 (cn : Int), .slice pa pl pcap] 39)))
      go_wp2_with (first
        | (refine wpList_load_row rfl 39 _ rfl w3.heap.size rfl 39 _ (0, 0) _ HZ4.out Try.underlying39 rfl SZ.out ?_)
        | (at_builtin; refine wpList_append_lies _ rfl _ _ 23 rfl w.heap.size 39 i0 _ 2 32 Try.underlying23 hi0 hz0 hz1 hz2 rfl (by decide) _ _ _ rfl HW5.out ⟨w4.heap.size, 0, none⟩ 1 1 [.int .i64 (cn : Int), .slice pa pl pcap] rfl rfl HNW.out (by simp [Value.oneCell']) (by decide) (by unfold maxLen; omega) (by omega) (by simp; omega) _ rfl ?_))
      intro g9 cap9 w9 hown1 hgrow hat hlt9
      have HI9 := hidH (HI5.out.snoc (ov' := .slice (some ⟨g9, 0, none⟩) (k + 1) cap9) (c := (cn : Int)) hgrow hgrow.size rfl (hat.imp id (fun h => by rw [h]; simp)) HRP5.out HMI.out HS3.out (Nat.le_trans HS4.out HS5.out) HBS.out (fun g hg => HOL.out g hg))
      have HR9 := hidH hown1
      have hnb : ov.ownBlock ≠ some w3.heap.size := fun h => by have := (HW3.out.lt _ h).2; omega
      have HZ9 : Hid (w9.cell? ⟨w3.heap.size, 0, none⟩ = some (.int .i64 (cn : Int))) := by
        have hlt5 := HZ5.out.lt
        have hb9 := hgrow.block w3.heap.size (by simpa using hlt5) hnb.symm
        show w9.cell? ⟨w3.heap.size, 0, none⟩ = _
        rw [World.cell?_of_block hb9]
        exact HZ5.out.cell0
      have HB9 := hidH ((HB4.out.alloc hsz4 (.cells #[.int .i64 (cn : Int), .slice pa pl pcap] 39)).grown hgrow (by simp; omega) fun g hg => (HW3.out.lt g hg).1)
      have c9 := HZ9.out
      clear hown1 hgrow hat hlt9
      go_wp2_with fail
      go_roundw
      case rel =>
        refine ⟨j + cn, k + 1, _, _, _, _, by omega, by go_num, rfl, by omega, ?_, HR9.out, HI9.out, HB9.out⟩
        obtain ⟨h1, h2⟩ := HG.out.out
        rw [HST.out, HNX.out] at h2
        exact ⟨by simp [h1], by rw [← h2]; simp⟩
      case measure => simp [intOf]; omega
    · obtain rfl : j = zs.length := by omega
      obtain ⟨hg1, hg2⟩ := HG.out
      rw [plG_end _ _ _ (Nat.le_refl _), List.append_nil] at hg2
      have HGN := hidH hg2
      have HAP := hidH (HI.out.ap HW.out)
      clear hg1 hg2 HG
      go_wp2_with fail
      go_ret
      rw [← HGN.out]
      exact ⟨_, rfl, HAP.out, HBq.out⟩
set_option maxHeartbeats 1600000 in
theorem greedyW_any (v0 : Value) (zs : List Int) (n : Int) (w : World) (lo0 hi0 : Nat) (hv0 : Lies w lo0 hi0 v0 zs) :
    Calls Try.prog 16 #[v0, .int .i64 n] w (NewApB (greedyG zs n) (smallOk zs && degOk n) w) := by
  have HV := hidH hv0
  obtain ⟨a0, cap0, rfl, hlc0, hcm0, _, _⟩ := hv0
  unfold maxLen at hcm0
  have BB := hidH (bMore (bMore (Below.refl w.heap.size w) (.cells #[.slice a0 zs.length cap0] 28)) (.cells #[.int .i64 n] 3))
  have HV1 := hidH (HV.out.below BB.out)
  have hmf : ∀ (fn : Fn) (first cap : Array Value) (w : World), (Instr.makeFunc fn first cap).run Try.prog w = .ok (.func fn first cap) w := fun _ _ _ _ => rfl
  have k1 : ((w.alloc (.cells #[.slice a0 zs.length cap0] 28)).alloc (.cells #[.int .i64 n] 3)).cell? ⟨w.heap.size, 0, none⟩ = some (.slice a0 zs.length cap0) := by
    rw [World.cell?_alloc_past _ _ _ (by simp), World.cell?_alloc_at _ _ _ _ rfl]; rfl
  have k2 : ((w.alloc (.cells #[.slice a0 zs.length cap0] 28)).alloc (.cells #[.int .i64 n] 3)).cell? ⟨w.heap.size + 1, 0, none⟩ = some (.int .i64 n) := by
    rw [show w.heap.size + 1 = (w.alloc (.cells #[.slice a0 zs.length cap0] 28)).heap.size by simp, World.cell?_alloc_at _ _ _ _ rfl]; rfl
  have l1 : w.heap.size < ((w.alloc (.cells #[.slice a0 zs.length cap0] 28)).alloc (.cells #[.int .i64 n] 3)).heap.size := by simp; omega
  have l2 : w.heap.size + 1 < ((w.alloc (.cells #[.slice a0 zs.length cap0] 28)).alloc (.cells #[.int .i64 n] 3)).heap.size := by simp
  have K1 := hidH k1
  have K2 := hidH k2
  have L1 := hidH l1
  have L2 := hidH l2
  clear k1 k2 l1 l2
  have HG1 := hidH (greedyG_no1 zs n)
  have HG2 := hidH (greedyG_no2 zs n)
  have HG3 := hidH (greedyG_yes zs n)
  cases hs : smallOk zs
  · have HS := hidH hs
    rw [Bool.false_and]
    clear hs
    have c1 := K1.out
    go_enter Try.func16, Try.ntmps16
    go_wp2_with fail
    refine (small_any _ zs _ _ _ HV1.out).mono ?_; rintro e w2 ⟨rfl, hb⟩
    rw [HS.out]
    have HB := hidH (bThen BB.out hb)
    clear hb
    go_wp2_with fail
    go_ret2
    rw [HG1.out HS.out]
    exact ⟨_, rfl, ApSg.nil _ _ _ none 0 (Nat.zero_le _) (fun _ => rfl), HB.out⟩
  · have HS := hidH hs
    rw [Bool.true_and]
    have c1 := K1.out
    go_enter Try.func16, Try.ntmps16
    go_wp2_with fail
    refine (small_any _ zs _ _ _ HV1.out).mono ?_; rintro e w2 ⟨rfl, hb⟩
    rw [HS.out]
    have HB := hidH (bThen BB.out hb)
    have HV2 := hidH (HV1.out.below hb)
    have e1 : w2.cell? ⟨w.heap.size, 0, none⟩ = some (.slice a0 zs.length cap0) := by rw [hb.cell (p := ⟨w.heap.size, 0, none⟩) L1.out]; exact K1.out
    have e2 : w2.cell? ⟨w.heap.size + 1, 0, none⟩ = some (.int .i64 n) := by rw [hb.cell (p := ⟨w.heap.size + 1, 0, none⟩) L2.out]; exact K2.out
    clear hb c1 hs
    cases hd : degOk n
    · have HD := hidH hd
      clear hd
      go_wp2_with fail
      refine (degValid_any n _).mono ?_; rintro e w3 ⟨rfl, rfl⟩
      rw [HD.out]
      go_wp2_with fail
      go_ret2
      rw [HD.out, HG2.out HD.out]
      exact ⟨_, rfl, ApSg.nil _ _ _ none 0 (Nat.zero_le _) (fun _ => rfl), HB.out⟩
    · have HD := hidH hd
      obtain ⟨d, rfl⟩ : ∃ d : Nat, n = (d : Int) := ⟨n.toNat, by unfold degOk at hd; have := of_decide_eq_true hd; omega⟩
      clear hd
      have HPB := hidH (planByW_any w.heap.size (w.heap.size + 1) a0 cap0 zs d w2 _ _ HV2.out e1 e2 HS.out HD.out)
      go_wp2_with fail
      refine (degValid_any (d : Int) _).mono ?_; rintro e w3 ⟨rfl, rfl⟩
      rw [HD.out]
      go_wp2_with fail
      refine HPB.out.mono ?_; rintro e w4 ⟨v4, rfl, hr, hb⟩
      have HR4 := hidH (hr.mono (by have := HB.out.size; exact this) (Nat.le_refl _))
      have HB4 := hidH (bThen HB.out hb)
      clear hb hr
      go_wp2_with fail
      go_ret2
      rw [HG3.out HS.out HD.out, HD.out, Int.toNat_natCast]
      exact ⟨v4, rfl, HR4.out, HB4.out⟩
end Go.Proofs.Ytgnoclnenhmakaa
namespace Go.Proofs.Ytgnoclnenhmakaa
set_option maxRecDepth 4000
open Go.RowKit
/-- A call that answers a segment with a row of its own. -/
def NewSeg1 (c : Int) (zs : List Int) (w : World) (e : Ending) (w' : World) : Prop := ∃ u, e = .returned (.agg #[.int .i64 c, u]) ∧ Row w' w.heap.size w'.heap.size u zs ∧ Below w.heap.size w w'
set_option maxHeartbeats 1600000 in
theorem ownSeg_any (c : Int) (v : Value) (zs : List Int) (w : World) (lo hi : Nat) (hv : Lies w lo hi v zs) (hn : zs.length ≤ 1048576) : Calls Try.prog 75 #[.agg #[.int .i64 c, v]] w (NewSeg1 c zs w) := by
  obtain ⟨a, cap, rfl, hlc, hcm, hnil, hcell⟩ := hv
  unfold maxLen at hcm
  obtain ⟨i0, hi0, hz0, hz1, hz2⟩ := info_parts infoInt
  have BB := hidH (bMore (bMore (bMore (Below.refl w.heap.size w) (.cells #[.int .i64 c, .slice a zs.length cap] 39)) (.cells #[.int .i64 0, .slice none 0 0] 39)) (.cells #[] 3))
  have E1 := hidH (((SegAt.fresh w c (.slice a zs.length cap)).alloc (.cells #[.int .i64 0, .slice none 0 0] 39)).alloc (.cells #[] 3))
  have E2 := hidH ((SegAt.newAt (w.alloc (.cells #[.int .i64 c, .slice a zs.length cap] 39)) 0 (.slice none 0 0) (w.heap.size + 1) (by simp)).alloc (.cells #[] 3))
  have hsz0 : ((w.alloc (.cells #[.int .i64 c, .slice a zs.length cap] 39)).alloc (.cells #[.int .i64 0, .slice none 0 0] 39)).heap.size = w.heap.size + 1 + 1 := by simp
  have HO := hidH (World.ownsRow_made (base := w.heap.size + 2) (e := 3) (size := 1) ((w.alloc (.cells #[.int .i64 c, .slice a zs.length cap] 39)).alloc (.cells #[.int .i64 0, .slice none 0 0] 39)) #[] 0 (by simp) (Nat.zero_le _) rfl)
  rw [hsz0] at HO
  clear hsz0
  have cA := E1.out.cell1
  cases a with
  | none =>
    obtain rfl := hnil rfl
    obtain rfl : zs = [] := List.eq_nil_of_length_eq_zero (by omega)
    clear hcell hnil
    go_enter Try.func75, Try.ntmps75
    go_wp2_with (at_builtin; refine wpList_append_own_none rfl _ _ 28 rfl (w.heap.size + 2) 3 i0 1 Try.underlying28 hi0 _ _ _ rfl HO.out rfl ?_)
    refine bodyPost_ret (results_seg Try.results75 _ _ (w.heap.size + 1) _ _ rfl ((SegAt.newAt (w.alloc (.cells #[.int .i64 c, .slice (some ⟨w.heap.size + 2, 0, none⟩) 0 0] 39)) c (.slice (some ⟨w.heap.size + 2, 0, none⟩) 0 0) (w.heap.size + 1) (by simp)).alloc _)) rfl ?_
    refine ⟨_, rfl, ?_, bMore (bMore (bMore (Below.refl w.heap.size w) _) _) _⟩
    have h := (row_of_owns (lo := w.heap.size) (e := 3) (zs := []) (World.ownsRow_made (base := w.heap.size) (e := 3) (size := 1) ((w.alloc (.cells #[.int .i64 c, .slice (some ⟨w.heap.size + 2, 0, none⟩) 0 0] 39)).alloc (.cells #[.int .i64 c, .slice (some ⟨w.heap.size + 2, 0, none⟩) 0 0] 39)) #[] 0 (by simp; omega) (Nat.zero_le _) rfl)).1
    simp at h ⊢
    exact h
  | some ad =>
    have HC := hidH (fun (w' : World) (hb : Below w.heap.size w w') => show ∀ (j : Nat) u, (ints zs)[j]? = some u → w'.cell? (ad.add j) = some u from fun j u hu => by
      unfold ints at hu
      rw [List.getElem?_map] at hu
      obtain ⟨z, hz, rfl⟩ := Option.map_eq_some_iff.1 hu
      obtain ⟨b, off, e, _, _, hc⟩ := hcell j z hz
      injection e with e
      subst e
      rw [show (⟨b, off, none⟩ : Addr).add j = ⟨b, off + j, none⟩ from by simp [Addr.add], hb.cell (p := ⟨b, off + j, none⟩) (cell_blk _ _ _ hc)]
      exact hc)
    have HOC := hidH (oneCells zs)
    clear hcell hnil
    go_enter Try.func75, Try.ntmps75
    go_wp2_with (at_builtin; refine wpList_append_own _ rfl _ _ 28 rfl (w.heap.size + 2) 3 i0 (.int .i64 0) 1 8 Try.underlying28 hi0 hz0 hz1 hz2 rfl (by decide) _ _ _ rfl HO.out ad zs.length cap (ints zs) rfl ?qc1 ?qc2 HOC.out ?qc4 ?qc5 ?qc6 ?_)
    case qc1 => rw [ints_length, Nat.mul_one]
    case qc2 => exact HC.out _ BB.out
    case qc4 => unfold maxLen; omega
    case qc5 => omega
    case qc6 => simp
    intro v' w5 hown hgrow _
    have hr := (row_of_owns hown).1
    have HR := hidH hr
    have hg := (Below.refl (w.heap.size + 2) _).grown hgrow (by simp) (fun g hg => (HO.out.lt g hg).1)
    clear hown hgrow
    obtain ⟨a', cap', rfl⟩ := hr.some
    have F1 := hidH (E1.out.lowB hg (by omega))
    have F2 := hidH (E2.out.lowB hg (by omega))
    have B5 := hidH (BB.out.trans (hg.mono (by omega)))
    have hsz := hg.size
    have c1 := F1.out.cell1
    have f1 := F1.out.free 1
    have G1 := hidH (F1.out.put1 (.slice a' zs.length cap'))
    have G2 := hidH (F2.out.other ⟨w.heap.size, 1, none⟩ (.slice a' zs.length cap') (by show w.heap.size + 1 ≠ w.heap.size; omega))
    have HBs := hidH (B5.out.setCell (p := ⟨w.heap.size, 1, none⟩) (Nat.le_refl _) (.slice a' zs.length cap'))
    have SZ := hidH (seg_size c (.slice a' zs.length cap'))
    have SO := hidH (seg_one c a' zs.length cap')
    clear hr hg
    go_wp2_with (first | (refine wpList_load_row rfl 39 _ rfl w.heap.size rfl 39 _ (0, 0) _ G1.out Try.underlying39 rfl SZ.out ?_) | (refine wpList_store_row rfl 39 _ _ rfl (w.heap.size + 1) #[.int .i64 c, .slice a' zs.length cap'] rfl rfl 39 _ G2.out SZ.out rfl SO.out ?_))
    refine bodyPost_ret (results_seg Try.results75 _ _ (w.heap.size + 1) _ _ rfl (G2.out.setRow _ _)) rfl ?_
    exact ⟨_, rfl, ((HR.out.apart (Apart.of_onto (lo := w.heap.size) (hi := w.heap.size + 2) (Onto.setCell w.heap.size 1 w5 _) (by omega) (by omega)) (.inr (Nat.le_refl _))).apart (Apart.of_onto (lo := w.heap.size) (hi := w.heap.size + 2) (ontoRow (w.heap.size + 1) _ _) (by omega) (by omega)) (.inr (Nat.le_refl _))).mono (by omega) (by simp), bRow HBs.out (by omega) _⟩
set_option maxHeartbeats 1600000 in
theorem ownSgs_any (v : Value) (cs : List (Int × List Int)) (w : World) (h1 : Nat) (hv : LiesSg w h1 v cs) (hn : cs.length ≤ 1048576) (hp : ∀ c zs, (c, zs) ∈ cs → zs.length ≤ 1048576) : Calls Try.prog 45 #[v] w (NewAp cs w) := by
  have HV := hidH hv
  have HPP := hidH hp
  obtain ⟨a, cap, rfl, hlc, hcm⟩ := hv.len
  unfold maxLen at hcm
  clear hv hp
  obtain ⟨i0, hi0, hz0, hz1, hz2⟩ := info_parts info_sg
  have HO := hidH (World.ownsRow_made (base := w.heap.size) (e := 39) (size := 2) w #[] 0 (Nat.le_refl _) (Nat.zero_le _) rfl)
  go_enter Try.func45, Try.ntmps45
  go_wp2_with fail
  go_loopw [3, 9] (fun o i wr => ∃ (k m : Nat) (ov : Value) (us : List Value), k ≤ cs.length ∧ i = .int .i64 k ∧ ov = o ∧ wr.ownsRow w.heap.size 39 2 ov k us ∧ InSg wr w.heap.size m ov us (cs.take k) ∧ Below w.heap.size w wr) (fun _ i _ => cs.length - (intOf i).toNat)
  case atStart => exact ⟨0, w.heap.size, _, [], Nat.zero_le _, rfl, rfl, HO.out, by rw [List.take_zero]; exact InSg.nil _ _ _ _ (by simp), (Below.refl _ _).alloc (Nat.le_refl _) _⟩
  case round =>
    obtain ⟨k, m, ov, us, hk, rfl, rfl, hown, hin, hb⟩ := hrel
    have HW := hidH hown
    have HI := hidH hin
    have HB := hidH hb
    clear hown hin hb
    by_cases hlt : k < cs.length
    · obtain ⟨b, off, cc1, e, _, _, _, hcl⟩ := HV.out.addr (by omega)
      injection e with e1 e2 e3
      subst e1; subst e3
      obtain ⟨x, hx⟩ : ∃ x, cs[k]? = some x := ⟨cs[k], List.getElem?_eq_getElem hlt⟩
      obtain ⟨c, zs⟩ := x
      obtain ⟨p, q0, q1, q2⟩ := hcl k c zs hx
      have c0 : wr.cell? ⟨b, off + k * 2, none⟩ = some (.int .i64 c) := by rw [HB.out.cell (p := ⟨b, off + k * 2, none⟩) (cell_blk _ _ _ q0)]; exact q0
      have c1 : wr.cell? ⟨b, off + k * 2 + 1, none⟩ = some p := by rw [HB.out.cell (p := ⟨b, off + k * 2 + 1, none⟩) (cell_blk _ _ _ q1)]; exact q1
      have HP := hidH (q2.below HB.out)
      obtain ⟨pa, pc, rfl⟩ := q2.some
      have hp2 := HPP.out c zs (List.mem_of_getElem? hx)
      have HX := hidH hx
      clear hcl q0 q1 q2 hx
      have BX := bMore (Below.refl wr.heap.size wr) (.cells #[.int .i64 c, .slice pa zs.length pc] 39)
      have HOS := hidH (ownSeg_any c _ zs _ _ _ (HP.out.below BX) hp2)
      have HBX := hidH BX
      clear BX
      go_wp2_with fail
      refine HOS.out.mono ?_; rintro e w5 ⟨u, rfl, hr, hb⟩
      have RE := hidH hr
      have hb5 := bThen HBX.out hb
      have B5 := hidH (bThen HB.out hb5)
      have W5 := hidH (owns_below HW.out hb5)
      have I5 := hidH (HI.out.below hb5)
      have hLT := fun g (hg : ov.ownBlock = some g) => (HW.out.lt g hg).2
      have hmi := HI.out.2.1
      have hbs := HB.out.size
      have hs5 := hb5.size
      obtain ⟨ea, ec, rfl⟩ := hr.some
      have hk20 : k ≤ 1048576 := by omega
      clear hr hb hb5 c0 c1
      have hB6 : Below w5.heap.size w5 (w5.alloc (.cells #[.int .i64 c, .slice ea zs.length ec] 39)) := (Below.refl _ w5).alloc (Nat.le_refl _) _
      have W6 := hidH (owns_below W5.out hB6)
      have I6 := hidH (I5.out.below hB6)
      have R6 := hidH (RE.out.below hB6)
      have B6 := hidH (bMore B5.out (.cells #[.int .i64 c, .slice ea zs.length ec] 39))
      have HNW := hidH (World.news_of_block (cs := #[.int .i64 c, .slice ea zs.length ec]) (t := 39) (fr := (0, 0)) (heap_alloc_new w5 (.cells #[.int .i64 c, .slice ea zs.length ec] 39)))
      have hs6 : (w5.alloc (.cells #[.int .i64 c, .slice ea zs.length ec] 39)).heap.size = w5.heap.size + 1 := by simp
      have HS6 := hidH hs6
      have HLT := hidH hLT
      have HBA := hidH (show (wr.alloc (.cells #[.int .i64 c, .slice pa zs.length pc] 39)).heap.size = wr.heap.size + 1 by simp)
      clear hB6 hs6 hLT
      go_wp2_with (at_builtin; refine wpList_append_lies _ rfl _ _ 23 rfl w.heap.size 39 i0 _ 2 32 Try.underlying23 hi0 hz0 hz1 hz2 rfl (by decide) ov k us rfl W6.out ⟨w5.heap.size, 0, none⟩ 1 1 [.int .i64 c, .slice ea zs.length ec] rfl rfl HNW.out (by simp [Value.oneCell']) (by decide) (by unfold maxLen; omega) (by omega) (by simp; omega) _ rfl ?_)
      intro g7 cap7 w7 hown1 hgrow hat hlt7
      have W7 := hidH hown1
      have I7 := hidH (I6.out.snoc (l := wr.heap.size) (h := w5.heap.size) (ov' := .slice (some ⟨g7, 0, none⟩) (k + 1) cap7) (c := c) hgrow hgrow.size rfl (hat.imp id (fun h => by rw [h]; simp)) (R6.out.mono (by rw [HBA.out]; omega) (Nat.le_refl _)) hmi hs5 (by rw [HS6.out]; omega) hbs (fun g hg => HLT.out g hg))
      have B7 := hidH (B6.out.grown hgrow (by rw [HS6.out]; omega) fun g hg => (W6.out.lt g hg).1)
      clear hown1 hgrow hat hlt7
      go_wp2_with fail
      go_roundw
      case rel => exact ⟨k + 1, _, _, _, by omega, by go_num, rfl, W7.out, by rw [List.take_add_one, HX.out]; exact I7.out, B7.out⟩
      case measure => simp [intOf]; omega
    · obtain rfl : k = cs.length := by omega
      have h := HI.out
      rw [List.take_length] at h
      have HL := hidH (h.ap HW.out)
      clear h
      go_wp2_with fail
      go_ret
      exact ⟨_, rfl, HL.out, HB.out⟩
end Go.Proofs.Ytgnoclnenhmakaa
namespace Go.Proofs.Ytgnoclnenhmakaa
set_option maxRecDepth 4000
open Go.RowKit
theorem greedyG_small (zs : List Int) (d : Int) : (greedyG zs d).length ≤ 60 := by
  unfold greedyG
  split
  · rename_i h
    rw [Bool.and_eq_true] at h
    have := (small_iff zs).1 h.1
    rw [plG_len]
    have := gN_le (nxZ_fwd (d.toNat + 1) zs (by omega)) _ 0 (Nat.le_refl _)
    omega
  · simp
theorem plF_poly (zs : List Int) (d f i : Nat) (c : Int) (ys : List Int) (h : (c, ys) ∈ plF zs d f i) : ys.length ≤ 1048576 := by
  induction f generalizing i with
  | zero => cases h
  | succ f ih =>
    rw [plF] at h
    split at h
    · rcases List.mem_cons.1 h with e | e
      · injection e with e1 e2
        rw [e2]
        exact segP_len _ _ _ _
      · exact ih _ e
    · cases h
theorem greedyG_poly (zs : List Int) (d : Int) : ∀ c ys, (c, ys) ∈ greedyG zs d → ys.length ≤ 1048576 := by
  intro c ys h
  unfold greedyG at h
  split at h
  · exact plF_poly _ _ _ _ _ _ h
  · cases h
/-- The polynomial of a longest run is the one of its segment. -/
theorem seg_runA (zs : List Int) (d k : Nat) (hs : smallOk zs = true) (hd : degOk (d : Int) = true) (hk : k < zs.length) : segP zs (k : Int) (longN (d + 1) (zs.drop k) : Nat) (d : Int) = runA ((zs.drop k).take (longN (d + 1) (zs.drop k))) (d : Int) := by
  have hp := longN_pos (d + 1) (zs.drop k) (by omega) (by rw [List.length_drop]; omega)
  have hl := longN_le (d + 1) (zs.drop k)
  rw [List.length_drop] at hl
  have hr := run_long (zs.drop k) (d : Int) (small_drop zs hs k hk) hd (longN (d + 1) (zs.drop k)) hp (by rw [List.length_drop]; exact hl)
  rw [Int.toNat_natCast] at hr
  have hr' : runB ((zs.drop k).take (longN (d + 1) (zs.drop k))) (d : Int) = true := by rw [hr]; exact decide_eq_true (Nat.le_refl _)
  have h1 : segAt zs (k : Int) = true := decide_eq_true (by omega)
  have h2 : segCnt zs (k : Int) (longN (d + 1) (zs.drop k) : Nat) = true := decide_eq_true (by omega)
  have hz : segZ zs (k : Int) (longN (d + 1) (zs.drop k) : Nat) = (zs.drop k).take (longN (d + 1) (zs.drop k)) := by
    unfold segZ
    rw [Int.toNat_natCast, Int.toNat_natCast]
  have hl2 : leastL ((zs.drop k).take (longN (d + 1) (zs.drop k))) ≤ (d : Int) := by
    unfold runB at hr'
    rw [Bool.and_eq_true, decide_eq_true_eq] at hr'
    exact hr'.1
  unfold segP segB runA
  rw [hs, h1, h2, hd, hz, hr', if_pos hl2]; rfl
theorem Lies.none (w : World) (lo hi : Nat) (a : Option Addr) (cap : Nat) (hc : cap ≤ maxLen) (h : a = Option.none → cap = 0) : Lies w lo hi (.slice a 0 cap) [] := ⟨a, cap, rfl, Nat.zero_le _, hc, h, fun _ _ h => by simp at h⟩
set_option maxHeartbeats 3200000 in
theorem sRawGreedy_any (v0 : Value) (zs : List Int) (n : Int) (w : World) (lo0 hi0 : Nat) (hv0 : Lies w lo0 hi0 v0 zs) : Calls Try.prog 90 #[v0, .int .i64 n] w (NewApB (greedyG zs n) (smallOk zs && degOk n) w) := by
  have HV := hidH hv0.top
  obtain ⟨a0, cap0, rfl, hlc0, hcm0, hnil0, hcell0⟩ := hv0
  unfold maxLen at hcm0
  clear hnil0 hcell0
  have HG1 := hidH (greedyG_no1 zs n)
  have HG2 := hidH (greedyG_no2 zs n)
  have HG3 := hidH (greedyG_yes zs n)
  obtain ⟨i0, hif0, hz0, hz1, hz2⟩ := info_parts info_sg
  have BB := hidH ((Below.refl w.heap.size w).alloc (Nat.le_refl _) (.cells #[] 39))
  have HV1 := hidH (HV.out.below BB.out)
  have HO := hidH (World.ownsRow_made (base := w.heap.size) (e := 39) (size := 2) w #[] 0 (Nat.le_refl _) (Nat.zero_le _) rfl)
  cases hs : smallOk zs
  · have HS := hidH hs
    rw [Bool.false_and]
    clear hs
    go_enter Try.func90, Try.ntmps90
    go_wp2_with fail
    refine (sSmall_any _ zs _ _ _ HV1.out).mono ?_; rintro e w2 ⟨rfl, hb⟩
    rw [HS.out]
    have HB := hidH (bThen BB.out hb)
    have hs2 := hb.size
    clear hb
    go_wp2_with fail
    go_ret2
    rw [HG1.out HS.out]
    exact ⟨_, rfl, ApSg.nil _ _ _ _ 0 (Nat.zero_le _) (fun _ => rfl), HB.out⟩
  · have HS := hidH hs
    rw [Bool.true_and]
    clear hs
    cases hd : degOk n
    · have HD := hidH hd
      clear hd
      go_enter Try.func90, Try.ntmps90
      go_wp2_with fail
      refine (sSmall_any _ zs _ _ _ HV1.out).mono ?_; rintro e w2 ⟨rfl, hb⟩
      rw [HS.out]
      have HB := hidH (bThen BB.out hb)
      clear hb
      go_wp2_with fail
      refine (sDeg4_any n _).mono ?_; rintro e w3 ⟨rfl, rfl⟩
      rw [HD.out]
      go_wp2_with fail
      go_ret2
      rw [HG2.out HD.out]
      exact ⟨_, rfl, ApSg.nil _ _ _ _ 0 (Nat.zero_le _) (fun _ => rfl), HB.out⟩
    · have HD := hidH hd
      obtain ⟨d, rfl⟩ : ∃ d : Nat, n = (d : Int) := ⟨n.toNat, by unfold degOk at hd; have := of_decide_eq_true hd; omega⟩
      clear hd
      have ⟨hl1, hl60, _⟩ := (small_iff zs).1 HS.out
      have HRL := hidH (fun k hk n h1 hn => run_long (zs.drop k) (d : Int) (small_drop zs HS.out k hk) HD.out n h1 hn)
      have HSP := hidH (fun k hk => seg_runA zs d k HS.out HD.out hk)
      go_enter Try.func90, Try.ntmps90
      go_wp2_with fail
      refine (sSmall_any _ zs _ _ _ HV1.out).mono ?_; rintro e w2 ⟨rfl, hb⟩
      rw [HS.out]
      have HB := hidH (bThen BB.out hb)
      have HV2 := hidH (HV1.out.below hb)
      have HO2 := hidH (owns_below HO.out hb)
      have HMM := hidH (show w.heap.size ≤ w2.heap.size by have := hb.size; simp at this; omega)
      clear hb
      go_wp2_with fail
      refine (sDeg4_any (d : Int) _).mono ?_; rintro e w3 ⟨rfl, rfl⟩
      rw [HD.out]
      go_wp2_with fail
      go_loopw [0, 6] (fun v o wr => ∃ (j k m : Nat) (vv ov : Value) (xs : List Value) (cs : List (Int × List Int)), j ≤ zs.length ∧ vv = v ∧ ov = o ∧ k ≤ j ∧ Aside (cs.length = k ∧ cs ++ plG zs d j = plG zs d 0) ∧ wr.ownsRow w.heap.size 39 2 ov k xs ∧ InSg wr w.heap.size m ov xs cs ∧ Lies wr 0 w.heap.size vv (zs.drop j) ∧ Below w.heap.size w wr) (fun v _ _ => match v with | .slice _ n _ => n | _ => 0)
      case atStart => exact ⟨0, 0, w.heap.size, _, _, [], [], Nat.zero_le _, rfl, rfl, Nat.le_refl _, ⟨rfl, rfl⟩, HO2.out, InSg.nil _ _ _ _ HMM.out, HV2.out, HB.out⟩
      case round =>
        obtain ⟨j, k, m, vv, ov, xs, cs, hj, rfl, rfl, hkj, hg, hown, hin, hlv, hb⟩ := hrel
        have HG := hidH hg
        have HW := hidH hown
        have HI := hidH hin
        have HBq := hidH hb
        clear hg hown hin hb
        by_cases hlt : j < zs.length
        · have hyl : (zs.drop j).length = zs.length - j := List.length_drop
          obtain ⟨b, off, cap1, rfl, hlc1, hcm1, _, _, _, _⟩ := hlv.addr (by omega)
          unfold maxLen at hcm1
          have HVr := hidH hlv
          have HRLj := hidH (HRL.out j hlt)
          have HSPj := hidH (HSP.out j hlt)
          have hp1 := longN_pos (d + 1) (zs.drop j) (by omega) (by omega)
          have hp2 := longN_le (d + 1) (zs.drop j)
          have HST := hidH (plG_step zs d j hlt)
          have HNX := hidH (show nxZ (d + 1) zs j = j + longN (d + 1) (zs.drop j) from rfl)
          rw [Int.toNat_natCast] at HRLj
          have HLG := hidH (fun W (hb : Below wr.heap.size wr W) => sLong_any b off cap1 (zs.drop j) d W _ _ (HVr.out.below hb) hlc1 (by omega) HRLj.out)
          have HDD := hidH (show ∀ q, (zs.drop j).drop q = zs.drop (j + q) from fun q => by rw [List.drop_drop])
          generalize longN (d + 1) (zs.drop j) = cn at *
          generalize zs.drop j = ys at *
          clear hlv HRLj
          have hmn : ys.length - cn < ys.length := by omega
          have hy60 : ys.length ≤ 60 := by omega
          have hy0 : 0 < ys.length := by omega
          have hjc : j + cn ≤ zs.length := by omega
          have HYL := hidH hyl
          clear hyl
          go_wp2_with fail
          refine (HLG.out _ (Below.refl _ _)).mono ?_; rintro e w4 ⟨rfl, hb⟩
          have HV4 := hidH (HVr.out.below hb)
          have HVt := hidH (HV4.out.taken cn hp2)
          have HW4 := hidH (owns_below HW.out hb)
          have HI4 := hidH (HI.out.below hb)
          have HB4 := hidH (bThen HBq.out hb)
          have HOL := hidH (fun g hg => (HW4.out.lt g hg).2)
          have HMI := hidH HI4.out.2.1
          have HBS := hidH HB4.out.size
          clear hb HLG HW HI HVr
          have hcc : cn ≤ cap1 := by omega
          go_wp2_with fail
          refine (sRun_any _ _ (d : Int) _ _ _ HVt.out).mono ?_; rintro e w5 ⟨v5, rfl, hr, hb⟩
          rw [← HSPj.out] at hr
          have HRP := hidH hr
          have HV5 := hidH (HV4.out.below hb)
          have HW5 := hidH (owns_below HW4.out hb)
          have HI5 := hidH (HI4.out.below hb)
          have HB5 := hidH (bThen HB4.out hb)
          have HS5 := hidH hb.size
          obtain ⟨pa, pcap, rfl⟩ := hr.some
          generalize hpl : (segP zs (j : Int) (cn : Int) (d : Int)).length = pl at *
          have HPL := hidH hpl
          have hk60 : k ≤ 60 := by omega
          clear hb hr hpl HW4 HI4 HV4 HVt
          have hB6 : Below w5.heap.size w5 (w5.alloc (.cells #[.int .i64 (cn : Int), .slice pa pl pcap] 39)) := (Below.refl _ w5).alloc (Nat.le_refl _) _
          have HW6 := hidH (owns_below HW5.out hB6)
          have HI6 := hidH (HI5.out.below hB6)
          have HRP6 := hidH (HRP.out.below hB6)
          have HV6 := hidH (HV5.out.below hB6)
          have HS6 := hidH hB6.size
          have HB6 := hidH (bMore HB5.out (.cells #[.int .i64 (cn : Int), .slice pa pl pcap] 39))
          have HNW := hidH (World.news_of_block (cs := #[.int .i64 (cn : Int), .slice pa pl pcap]) (t := 39) (fr := (0, 0)) (heap_alloc_new w5 (.cells #[.int .i64 (cn : Int), .slice pa pl pcap] 39)))
          have hs5 := HB5.out.size
          clear hB6 HW5 HI5 HRP HV5
          go_wp2_with (at_builtin; refine wpList_append_lies _ rfl _ _ 23 rfl w.heap.size 39 i0 _ 2 32 Try.underlying23 hif0 hz0 hz1 hz2 rfl (by decide) _ _ _ rfl HW6.out ⟨w5.heap.size, 0, none⟩ 1 1 [.int .i64 (cn : Int), .slice pa pl pcap] rfl rfl HNW.out (by simp [Value.oneCell']) (by decide) (by unfold maxLen; omega) (by omega) (by simp; omega) _ rfl ?_)
          intro g9 cap9 w9 hown1 hgrow hat hlt9
          have HI9 := hidH (HI6.out.snoc (ov' := .slice (some ⟨g9, 0, none⟩) (k + 1) cap9) (c := (cn : Int)) hgrow hgrow.size rfl (hat.imp id (fun h => by rw [h]; simp)) HRP6.out HMI.out HS5.out HS6.out HBS.out (fun g hg => HOL.out g hg))
          have HR9 := hidH hown1
          have hBl : Below w.heap.size (w5.alloc (.cells #[.int .i64 (cn : Int), .slice pa pl pcap] 39)) w9 := (Below.refl _ _).grown hgrow (by simp; omega) fun g hg => (HW6.out.lt g hg).1
          have HB9 := hidH (HB6.out.trans hBl)
          have HV9 := hidH (HV6.out.grown hgrow (fun g hg => .inr (HW6.out.lt g hg).1))
          clear hown1 hgrow hat hlt9 hBl
          have hyl2 := HYL.out
          have HREL := hidH (show (cs ++ [((cn : Int), segP zs (j : Int) (cn : Int) (d : Int))]).length = k + 1 ∧ cs ++ [((cn : Int), segP zs (j : Int) (cn : Int) (d : Int))] ++ plG zs d (j + cn) = plG zs d 0 by
            obtain ⟨h1, h2⟩ := HG.out.out
            rw [HST.out, HNX.out] at h2
            exact ⟨by simp [h1], by rw [← h2]; simp⟩)
          have HLN := hidH (show (ys.drop cn).length = ys.length - cn from List.length_drop)
          clear hyl2
          by_cases hce : cap1 = cn
          · subst hce
            have hye : ys.length = cap1 := by omega
            have HYE := hidH hye
            have HN9 := hidH (show ys.drop cap1 = [] from List.drop_eq_nil_of_le (by omega))
            clear hye
            go_wp2_with fail
            go_roundw
            case rel =>
              refine ⟨j + cap1, k + 1, _, _, _, _, _, by omega, rfl, rfl, by omega, HREL.out, HR9.out, HI9.out, ?_, HB9.out⟩
              rw [← HDD.out, HN9.out]
              exact Lies.none _ _ _ _ _ (Nat.zero_le _) (fun _ => rfl)
            case measure => (show 0 < ys.length; exact hy0)
          · have HD9 := hidH (HV9.out.dropped cn (ys.length - cn) (cap1 - cn) hp2 rfl rfl)
            have hcn1 : (ys.length : Int) - cn = ((ys.length - cn : Nat) : Int) := by omega
            have hcn2 : (cap1 : Int) - cn = ((cap1 - cn : Nat) : Int) := by omega
            go_wp2_with fail
            go_roundw
            case rel =>
              refine ⟨j + cn, k + 1, _, _, _, _, _, by omega, rfl, rfl, by omega, HREL.out, HR9.out, HI9.out, ?_, HB9.out⟩
              rw [← HDD.out]
              exact HD9.out
            case measure => (show ys.length - cn < ys.length; exact hmn)
        · obtain rfl : j = zs.length := by omega
          obtain ⟨hg1, hg2⟩ := HG.out
          rw [plG_end _ _ _ (Nat.le_refl _), List.append_nil] at hg2
          have HGN := hidH hg2
          have HAP := hidH (HI.out.ap HW.out)
          rw [List.drop_length] at hlv
          obtain ⟨a9, cap9, rfl, _, _, _, _⟩ := hlv
          clear hg1 hg2 HG
          go_wp2_with fail
          go_ret2
          rw [HG3.out HS.out HD.out, Int.toNat_natCast, ← HGN.out]
          exact ⟨_, rfl, HAP.out, HBq.out⟩
theorem sGreedyW_any (v0 : Value) (zs : List Int) (n : Int) (w : World) (lo0 hi0 : Nat) (hv0 : Lies w lo0 hi0 v0 zs) : Calls Try.prog 58 #[v0, .int .i64 n] w (NewApB (greedyG zs n) (smallOk zs && degOk n) w) := by
  have HR := hidH (sRawGreedy_any v0 zs n w lo0 hi0 hv0)
  have HL := hidH (greedyG_small zs n)
  have HP := hidH (greedyG_poly zs n)
  clear hv0
  generalize greedyG zs n = cs at *
  generalize (smallOk zs && degOk n) = tb at *
  go_enter Try.func58, Try.ntmps58
  go_wp2_with fail
  refine HR.out.mono ?_; rintro e w2 ⟨u, rfl, hr, hb⟩
  have HB := hidH hb
  have HRR := hidH hr
  clear hb hr
  go_wp2_with fail
  refine (ownSgs_any u cs w2 _ HRR.out.lies (by have := HL.out; omega) HP.out).mono ?_; rintro e w3 ⟨u3, rfl, hr, hb⟩
  have HB3 := hidH (bThen HB.out hb)
  have HR3 := hidH (hr.mono HB.out.size (Nat.le_refl _))
  clear hb hr
  go_wp2_with fail
  go_ret2
  exact ⟨_, rfl, HR3.out, HB3.out⟩
end Go.Proofs.Ytgnoclnenhmakaa
