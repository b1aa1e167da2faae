/-
  The library's concatenation of slices of segments. Condition: at most 2097152 segments.
  planOf: parts of plans, in memory of their own. Condition: at most 2097152 segments, each with a polynomial of at most 1048576 differences.
-/
import Derived.Test.YtgnoclnenhmakaaPlfR
import Derived.Test.YtgnoclnenhmakaaPolyM
namespace Go.Proofs.Ytgnoclnenhmakaa
set_option maxRecDepth 4000
open Go.RowKit
theorem growSg_any (n : Nat) (h1 : 1 ≤ n) (h2 : n ≤ 2097152) (w : World) : Calls Try.prog 100 #[.slice none 0 0, .int .i64 n] w fun e w' => ∃ v, e = .returned v ∧ w'.ownsRow w.heap.size 39 2 v 0 [] ∧ Below w.heap.size w w' := by
  obtain ⟨i0, hi0, hz0, hz1, hz2⟩ := info_parts info_sg
  have hrz : ∀ ty, (Builtin.append_ #[23, 3] ty #[.slice none 0 0, .int .i64 n]).run Try.prog w = .ok _ _ := fun ty =>
    Lib.run_append_nil_zeros (P := Try.prog) w 23 3 ty 39 i0 (.agg #[.int .i64 0, .slice none 0 0]) .i64 .i64 Try.underlying23 Try.underlying3 hi0 hz0 n (by omega) (by omega) (by omega) (by rw [hz2]; omega)
  have hGn : n ≤ grownCap w n 0 39 := grownCap_ge w _ _ _
  have hG63 : grownCap w n 0 39 ≤ maxLen := grownCap_le_maxLen w n 0 39 (by unfold maxLen; omega)
  generalize grownCap w n 0 39 = G at *
  have hown : ((w.drew.alloc (.cells (Builtin.zeroCells (Value.agg #[.int .i64 0, .slice none 0 0]).cells n ++ Builtin.zeroCells (Value.agg #[.int .i64 0, .slice none 0 0]).cells (G - n)) 39))).ownsRow w.heap.size 39 2 (.slice (some ⟨w.drew.heap.size, 0, none⟩) 0 G) 0 [] :=
    World.ownsRow_made w.drew _ G (Nat.le_refl _) hG63 (by simp [Builtin.zeroCells, Value.cells]; omega)
  have HO := hidH hown
  have hbel : Below w.heap.size w (w.drew.alloc (.cells (Builtin.zeroCells (Value.agg #[.int .i64 0, .slice none 0 0]).cells n ++ Builtin.zeroCells (Value.agg #[.int .i64 0, .slice none 0 0]).cells (G - n)) 39)) := (Below.refl _ _).drew.alloc (Nat.le_refl _) _
  have HB := hidH hbel
  clear hown hbel
  unfold maxLen at hG63
  go_enter Try.func100, Try.ntmps100
  go_wp2_with (at_builtin; refine Lib.wpList_append_run _ rfl _ _ _ _ rfl _ _ rfl rfl _ _ (hrz _) ?_)
  all_goals (go_ret; exact ⟨_, rfl, HO.out, HB.out⟩)
/-- The number of elements of the first parts, and their cells. -/
def sumN (nn : Nat → Nat) : Nat → Nat
  | 0 => 0
  | k + 1 => sumN nn k + nn k
def catU (us : Nat → List Value) : Nat → List Value
  | 0 => []
  | k + 1 => catU us k ++ us k
theorem sumN_mono (nn : Nat → Nat) (k m : Nat) (h : k ≤ m) : sumN nn k ≤ sumN nn m := by
  induction m with
  | zero => obtain rfl : k = 0 := by omega
            exact Nat.le_refl _
  | succ m ih =>
    by_cases e : k = m + 1
    · subst e; exact Nat.le_refl _
    · exact Nat.le_trans (ih (by omega)) (Nat.le_add_right _ _)
/-- A part of a concatenation: n segments at an address, whose cells are us. -/
def PartF (w : World) (ad : Addr) (n cap : Nat) (us : List Value) : Prop := us.length = n * 2 ∧ n ≤ cap ∧ cap ≤ maxLen ∧ (∀ (j : Nat) u, us[j]? = some u → w.cell? (ad.add j) = some u) ∧ ∀ u ∈ us, u.oneCell' = true
theorem PartF.below {w w' : World} {ad : Addr} {n cap : Nat} {us : List Value} (h : PartF w ad n cap us) (hb : Below w.heap.size w w') : PartF w' ad n cap us :=
  ⟨h.1, h.2.1, h.2.2.1, fun j u hj => by
    have hc := h.2.2.2.1 j u hj
    rw [hb.cell (p := ad.add j) (cell_blk _ _ _ hc)]; exact hc, h.2.2.2.2⟩
set_option maxHeartbeats 1600000 in
theorem concatSg_any (B K : Nat) (ad : Nat → Addr) (nn cp : Nat → Nat) (us : Nat → List Value) (w : World) (hK : K ≤ 1000) (hc : ∀ k, k < K → w.cell? ⟨B, k, none⟩ = some (.slice (some (ad k)) (nn k) (cp k))) (hp : ∀ k, k < K → PartF w (ad k) (nn k) (cp k) (us k)) (h1 : 1 ≤ sumN nn K) (h2 : sumN nn K ≤ 2097152) :
    Calls Try.prog 83 #[.slice (some ⟨B, 0, none⟩) K K] w fun e w' => ∃ v, e = .returned v ∧ w'.ownsRow w.heap.size 39 2 v (sumN nn K) (catU us K) ∧ Below w.heap.size w w' := by
  obtain ⟨i0, hi0, hz0, hz1, hz2⟩ := info_parts info_sg
  have HC := hidH hc
  have HP := hidH hp
  have HM := hidH (fun k (hk : k ≤ K) => sumN_mono nn k K hk)
  have HG := hidH (growSg_any (sumN nn K) h1 h2 w)
  clear hc hp
  go_enter Try.func83, Try.ntmps83
  go_wp2_with fail
  go_loop [3, 11] (fun s i => ∃ k : Nat, k ≤ K ∧ i = .int .i64 k ∧ s = .int .i64 (sumN nn k : Nat)) (fun _ i => K - (intOf i).toNat)
  case atStart => exact ⟨0, Nat.zero_le _, rfl, rfl⟩
  case round =>
    obtain ⟨k, hk, rfl, rfl⟩ := hrel
    by_cases hlt : k < K
    · have c0 := HC.out k hlt
      have hm := HM.out (k + 1) hlt
      have HS := hidH (show sumN nn (k + 1) = sumN nn k + nn k from rfl)
      obtain ⟨q, hq⟩ : ∃ q, q = sumN nn (k + 1) := ⟨_, rfl⟩
      have hsm : (sumN nn k : Int) + (nn k : Int) = (q : Int) := by rw [hq, HS.out]; omega
      rw [← hq] at hm
      have HQ := hidH hq
      clear hq
      generalize sumN nn k = sk at *
      generalize nn k = nk at *
      go_wp2_with fail
      go_round
      case rel => exact ⟨k + 1, by omega, by go_num, by rw [← HQ.out]⟩
      case measure => simp [intOf]; omega
    · obtain rfl : k = K := by omega
      go_wp2_with fail
      refine HG.out.mono ?_; rintro e w1 ⟨v, rfl, hown, hb⟩
      have HW := hidH hown
      have HB := hidH hb
      clear hown hb
      go_wp2_with fail
      go_loopw [6, 27] (fun ns i wr => ∃ (j : Nat) (ov : Value), j ≤ k ∧ i = .int .i64 j ∧ ov = ns ∧ wr.ownsRow w.heap.size 39 2 ov (sumN nn j) (catU us j) ∧ Below w.heap.size w wr) (fun _ i _ => k - (intOf i).toNat)
      case atStart => exact ⟨0, v, Nat.zero_le _, rfl, rfl, HW.out, HB.out⟩
      case round =>
        obtain ⟨j, ov, hj, rfl, rfl, hown, hb⟩ := hrel
        have HWq := hidH hown
        have HBq := hidH hb
        have hsq := hb.size
        clear hown hb
        by_cases hlt : j < k
        · have q0 := HC.out j hlt
          have c0 : wr.cell? ⟨B, j, none⟩ = some (.slice (some (ad j)) (nn j) (cp j)) := by rw [HBq.out.cell (p := ⟨B, j, none⟩) (cell_blk _ _ _ q0)]; exact q0
          obtain ⟨p1, p2, p3, p4, p5⟩ := (HP.out j hlt).below HBq.out
          have hm := HM.out (j + 1) hlt
          have HS := hidH (show sumN nn (j + 1) = sumN nn j + nn j from rfl)
          have HU := hidH (show catU us (j + 1) = catU us j ++ us j from rfl)
          have HP1 := hidH p1
          have HP4 := hidH p4
          have HP5 := hidH p5
          rw [HS.out] at hm
          generalize sumN nn j = sj at *
          generalize nn j = nj at *
          generalize cp j = cj at *
          generalize ad j = aj at *
          unfold maxLen at p3
          clear q0 p1 p4 p5
          go_wp2_with (at_builtin; refine wpList_append_own _ rfl _ _ 23 rfl w.heap.size 39 i0 _ 2 32 Try.underlying23 hi0 hz0 hz1 hz2 rfl (by decide) ov sj (catU us j) rfl HWq.out aj nj cj (us j) rfl HP1.out HP4.out HP5.out (by unfold maxLen; omega) (by omega) (by omega) ?_)
          intro v' w2 hown1 hgrow _
          have HR := hidH hown1
          have HBn := hidH (HBq.out.trans (Below.of_grown hgrow hsq fun g hg => (HWq.out.lt g hg).1))
          clear hown1 hgrow
          go_wp2_with fail
          go_roundw
          case rel => exact ⟨j + 1, v', by omega, by go_num, rfl, by rw [HS.out, HU.out]; exact HR.out, HBn.out⟩
          case measure => simp [intOf]; omega
        · obtain rfl : j = k := by omega
          go_wp2_with fail
          go_ret
          exact ⟨ov, rfl, HWq.out, HBq.out⟩
end Go.Proofs.Ytgnoclnenhmakaa
namespace Go.Proofs.Ytgnoclnenhmakaa
set_option maxRecDepth 4000
open Go.RowKit
/-- These cells are segments: numbers, and slices that can be read. -/
def CellsSg (w : World) (hi : Nat) (us : List Value) (cs : List (Int × List Int)) : Prop := us.length = cs.length * 2 ∧ ∀ (j : Nat) c zs, cs[j]? = some (c, zs) → us[j * 2]? = some (.int .i64 c) ∧ ∃ u, us[j * 2 + 1]? = some u ∧ Lies w 0 hi u zs
theorem CellsSg.nil (w : World) (hi : Nat) : CellsSg w hi [] [] := ⟨rfl, fun _ _ _ h => by simp at h⟩
theorem CellsSg.below {w w' : World} {hi : Nat} {us : List Value} {cs : List (Int × List Int)} (h : CellsSg w hi us cs) (hb : Below w.heap.size w w') : CellsSg w' hi us cs := ⟨h.1, fun j c zs hj => by
  obtain ⟨h1, u, h2, h3⟩ := h.2 j c zs hj
  exact ⟨h1, u, h2, h3.below hb⟩⟩
theorem CellsSg.mono {w : World} {hi h2 : Nat} {us : List Value} {cs : List (Int × List Int)} (h : CellsSg w hi us cs) (hh : hi ≤ h2) : CellsSg w h2 us cs := ⟨h.1, fun j c zs hj => by
  obtain ⟨h1, u, h2, h3⟩ := h.2 j c zs hj
  exact ⟨h1, u, h2, h3.mono (Nat.le_refl _) hh⟩⟩
theorem CellsSg.top {w : World} {hi : Nat} {us : List Value} {cs : List (Int × List Int)} (h : CellsSg w hi us cs) : CellsSg w w.heap.size us cs := ⟨h.1, fun j c zs hj => by
  obtain ⟨h1, u, h2, h3⟩ := h.2 j c zs hj
  exact ⟨h1, u, h2, h3.top⟩⟩
theorem CellsSg.append {w : World} {hi : Nat} {us vs : List Value} {cs ds : List (Int × List Int)} (h : CellsSg w hi us cs) (k : CellsSg w hi vs ds) : CellsSg w hi (us ++ vs) (cs ++ ds) := by
  refine ⟨by rw [List.length_append, List.length_append, h.1, k.1]; omega, fun j c zs hj => ?_⟩
  have hl := h.1
  by_cases c1 : j < cs.length
  · rw [List.getElem?_append_left c1] at hj
    obtain ⟨h1, u, h2, h3⟩ := h.2 j c zs hj
    exact ⟨by rw [List.getElem?_append_left (by omega)]; exact h1, u, by rw [List.getElem?_append_left (by omega)]; exact h2, h3⟩
  · rw [List.getElem?_append_right (by omega)] at hj
    obtain ⟨h1, u, h2, h3⟩ := k.2 (j - cs.length) c zs hj
    exact ⟨by rw [List.getElem?_append_right (by omega), show j * 2 - us.length = (j - cs.length) * 2 by omega]; exact h1, u, by rw [List.getElem?_append_right (by omega), show j * 2 + 1 - us.length = (j - cs.length) * 2 + 1 by omega]; exact h2, h3⟩
theorem CellsSg.take {w : World} {hi : Nat} {us : List Value} {cs : List (Int × List Int)} (h : CellsSg w hi us cs) (k : Nat) (hk : k ≤ cs.length) : CellsSg w hi (us.take (k * 2)) (cs.take k) := by
  have hl := h.1
  refine ⟨by rw [List.length_take, List.length_take]; omega, fun j c zs hj => ?_⟩
  have hjk : j < k := by have := (List.getElem?_eq_some_iff.1 hj).1; rw [List.length_take] at this; omega
  rw [List.getElem?_take, if_pos hjk] at hj
  obtain ⟨h1, u, h2, h3⟩ := h.2 j c zs hj
  exact ⟨by rw [List.getElem?_take, if_pos (by omega)]; exact h1, u, by rw [List.getElem?_take, if_pos (by omega)]; exact h2, h3⟩
theorem CellsSg.drop {w : World} {hi : Nat} {us : List Value} {cs : List (Int × List Int)} (h : CellsSg w hi us cs) (k : Nat) : CellsSg w hi (us.drop (k * 2)) (cs.drop k) := by
  have hl := h.1
  refine ⟨by rw [List.length_drop, List.length_drop]; omega, fun j c zs hj => ?_⟩
  rw [List.getElem?_drop] at hj
  obtain ⟨h1, u, h2, h3⟩ := h.2 (k + j) c zs hj
  exact ⟨by rw [List.getElem?_drop, show k * 2 + j * 2 = (k + j) * 2 by omega]; exact h1, u, by rw [List.getElem?_drop, show k * 2 + (j * 2 + 1) = (k + j) * 2 + 1 by omega]; exact h2, h3⟩
theorem PartF.take {w : World} {ad : Addr} {n cap : Nat} {us : List Value} (h : PartF w ad n cap us) (k : Nat) (hk : k ≤ n) : PartF w ad k cap (us.take (k * 2)) := by
  obtain ⟨h1, h2, h3, h4, h5⟩ := h
  refine ⟨by rw [List.length_take]; omega, by omega, h3, fun j u hj => ?_, fun u hu => h5 u (List.mem_of_mem_take hu)⟩
  have hjk : j < k * 2 := by have := (List.getElem?_eq_some_iff.1 hj).1; rw [List.length_take] at this; omega
  rw [List.getElem?_take, if_pos hjk] at hj
  exact h4 j u hj
theorem PartF.drop {w : World} {b off n cap : Nat} {us : List Value} (h : PartF w ⟨b, off, none⟩ n cap us) (k : Nat) (hk : k ≤ n) : PartF w ⟨b, off + k * 2, none⟩ (n - k) (cap - k) (us.drop (k * 2)) := by
  obtain ⟨h1, h2, h3, h4, h5⟩ := h
  refine ⟨by rw [List.length_drop]; omega, by omega, Nat.le_trans (Nat.sub_le _ _) h3, fun j u hj => ?_, fun u hu => h5 u (List.mem_of_mem_drop hu)⟩
  rw [List.getElem?_drop] at hj
  have hc := h4 _ u hj
  have e : (⟨b, off, none⟩ : Addr).add (k * 2 + j) = (⟨b, off + k * 2, none⟩ : Addr).add j := by
    have e0 (o i : Nat) : (⟨b, o, none⟩ : Addr).add i = ⟨b, o + i, none⟩ := by simp [Addr.add]
    rw [e0, e0, Nat.add_assoc]
  rw [← e]; exact hc
theorem PartF.nil (w : World) (ad : Addr) (cap : Nat) (hc : cap ≤ maxLen) : PartF w ad 0 cap [] := ⟨rfl, Nat.zero_le _, hc, fun _ _ h => by simp at h, fun _ h => by cases h⟩
/-- Segments in memory are such a part. -/
theorem LiesSg.part {w : World} {hi : Nat} {v : Value} {cs : List (Int × List Int)} (h : LiesSg w hi v cs) (h0 : 0 < cs.length) : ∃ b off cap us, v = .slice (some ⟨b, off, none⟩) cs.length cap ∧ cs.length ≤ cap ∧ cap ≤ maxLen ∧ PartF w ⟨b, off, none⟩ cs.length cap us ∧ CellsSg w hi us cs := by
  obtain ⟨b, off, cap, e, h2, h3, _, h5⟩ := h.addr h0
  have hu (j : Nat) (hj : j < cs.length * 2) : ∃ u, w.cell? ⟨b, off + j, none⟩ = some u ∧ u.oneCell' = true := by
    have hq : j / 2 < cs.length := by omega
    obtain ⟨u, c0, c1, hl⟩ := h5 (j / 2) (cs[j / 2]).1 (cs[j / 2]).2 (List.getElem?_eq_getElem hq)
    obtain ⟨ua, uc, rfl⟩ := hl.some
    rcases Nat.mod_two_eq_zero_or_one j with e | e
    · exact ⟨_, by rw [show j = j / 2 * 2 by omega]; exact c0, rfl⟩
    · exact ⟨_, by rw [show off + j = off + j / 2 * 2 + 1 by omega]; exact c1, rfl⟩
  let us := (List.range (cs.length * 2)).map fun j => (w.cell? ⟨b, off + j, none⟩).getD undef
  have hus (j : Nat) (hj : j < cs.length * 2) (u : Value) (hc : w.cell? ⟨b, off + j, none⟩ = some u) : us[j]? = some u := by
    simp only [us, List.getElem?_map, List.getElem?_range hj, Option.map_some, hc, Option.getD_some]
  refine ⟨b, off, cap, us, e, h2, h3, ⟨by simp [us], h2, h3, fun j u hj => ?_, fun u hm => ?_⟩, by simp [us], fun j c zs hj => ?_⟩
  · have hjl : j < cs.length * 2 := by have := (List.getElem?_eq_some_iff.1 hj).1; simpa [us] using this
    obtain ⟨u', hc, _⟩ := hu j hjl
    rw [hus j hjl u' hc] at hj
    injection hj with hj
    subst hj
    rw [show (⟨b, off, none⟩ : Addr).add j = ⟨b, off + j, none⟩ by simp [Addr.add]]; exact hc
  · obtain ⟨j, hj⟩ := List.getElem?_of_mem hm
    have hjl : j < cs.length * 2 := by have := (List.getElem?_eq_some_iff.1 hj).1; simpa [us] using this
    obtain ⟨u', hc, h1⟩ := hu j hjl
    rw [hus j hjl u' hc] at hj
    injection hj with hj
    subst hj
    exact h1
  · have hjl := (List.getElem?_eq_some_iff.1 hj).1
    obtain ⟨u, c0, c1, hl⟩ := h5 j c zs hj
    exact ⟨hus _ (by omega) _ c0, u, hus _ (by omega) _ (by rw [← Nat.add_assoc]; exact c1), hl⟩
/-- .. and cells of a row of the call's own are segments in memory. -/
theorem CellsSg.lies {w : World} {hi base e n : Nat} {v : Value} {us : List Value} {cs : List (Int × List Int)} (h : CellsSg w hi us cs) (hh : hi ≤ w.heap.size) (hown : w.ownsRow base e 2 v n us) : LiesSg w w.heap.size v cs := by
  obtain ⟨h1, h2⟩ := h
  obtain ⟨hl, hv⟩ := hown
  have hn : n = cs.length := by omega
  subst hn
  rcases hv with ⟨rfl, h0⟩ | ⟨g, cap, cur, rfl, hg, hx, hn, hc, hsz, ht⟩
  · obtain rfl : cs = [] := List.eq_nil_of_length_eq_zero h0
    exact ⟨none, 0, rfl, Nat.zero_le _, Nat.zero_le _, fun _ => rfl, fun _ _ _ h => by simp at h⟩
  · have hlt : g < w.heap.size := (Array.getElem?_eq_some_iff.1 hx).1
    refine ⟨some ⟨g, 0, none⟩, cap, rfl, hn, hc, (fun e => by cases e), fun j c zs hj => ?_⟩
    have hjl := (List.getElem?_eq_some_iff.1 hj).1
    obtain ⟨e1, u, e2, e3⟩ := h2 j c zs hj
    rw [← ht, List.getElem?_take, if_pos (by omega), Array.getElem?_toList] at e1 e2
    exact ⟨g, 0, u, rfl, hlt, by rw [Nat.zero_add]; simp [World.cell?, hx, e1], by rw [Nat.zero_add]; simp [World.cell?, hx, e2], e3.mono (Nat.le_refl _) hh⟩
/-- The segments lie in block g; the first i have rows of their own behind it. -/
def PlanAt (w : World) (h0 g i : Nat) (L : Nat → Nat) (cs : List (Int × List Int)) : Prop := (∀ j, L j ≤ L (j + 1)) ∧ g < L 0 ∧ (∀ j, L j ≤ w.heap.size) ∧ ∀ (j : Nat) c zs, cs[j]? = some (c, zs) → ∃ u, w.cell? ⟨g, j * 2, none⟩ = some (.int .i64 c) ∧ w.frozen? ⟨g, j * 2, none⟩ = false ∧ w.cell? ⟨g, j * 2 + 1, none⟩ = some u ∧ w.frozen? ⟨g, j * 2 + 1, none⟩ = false ∧ (j < i → Row w (L j) (L (j + 1)) u zs) ∧ (i ≤ j → Lies w 0 h0 u zs)
theorem mono_all {L : Nat → Nat} (h : ∀ j, L j ≤ L (j + 1)) (i j : Nat) (hij : i ≤ j) : L i ≤ L j := by
  induction j with
  | zero =>
    obtain rfl : i = 0 := by omega
    exact Nat.le_refl _
  | succ j ih =>
    by_cases e : i = j + 1
    · subst e; exact Nat.le_refl _
    · exact Nat.le_trans (ih (by omega)) (h j)
theorem PlanAt.start {w : World} {h0 base e n : Nat} {v : Value} {us : List Value} {cs : List (Int × List Int)} (h : CellsSg w h0 us cs) (hown : w.ownsRow base e 2 v n us) (hn1 : 1 ≤ cs.length) : ∃ g cap, v = .slice (some ⟨g, 0, none⟩) cs.length cap ∧ base ≤ g ∧ g < w.heap.size ∧ cs.length ≤ cap ∧ cap ≤ maxLen ∧ PlanAt w h0 g 0 (fun _ => w.heap.size) cs := by
  obtain ⟨h1, h2⟩ := h
  obtain ⟨hl, hv⟩ := hown
  have hn : n = cs.length := by omega
  subst hn
  rcases hv with ⟨rfl, h0⟩ | ⟨g, cap, cur, rfl, hg, hx, hn, hc, hsz, ht⟩
  · omega
  · have hlt : g < w.heap.size := (Array.getElem?_eq_some_iff.1 hx).1
    refine ⟨g, cap, rfl, hg, hlt, hn, hc, fun _ => Nat.le_refl _, hlt, fun _ => Nat.le_refl _, fun j c zs hj => ?_⟩
    have hjl := (List.getElem?_eq_some_iff.1 hj).1
    obtain ⟨e1, u, e2, e3⟩ := h2 j c zs hj
    rw [← ht, List.getElem?_take, if_pos (by omega), Array.getElem?_toList] at e1 e2
    exact ⟨u, by simp [World.cell?, hx, e1], by simp [World.frozen?, hx], by simp [World.cell?, hx, e2], by simp [World.frozen?, hx], fun h => absurd h (Nat.not_lt_zero _), fun _ => e3⟩
theorem PlanAt.ap {w : World} {h0 g base cap : Nat} {L : Nat → Nat} {cs : List (Int × List Int)} (h : PlanAt w h0 g cs.length L cs) (hb : base ≤ g) (hg : g < w.heap.size) (h2 : cs.length ≤ cap) (h3 : cap ≤ maxLen) : ApSg w base w.heap.size (.slice (some ⟨g, 0, none⟩) cs.length cap) cs := by
  obtain ⟨hL, hgL, hm, hc⟩ := h
  refine ⟨some ⟨g, 0, none⟩, cap, L, fun j => L (j + 1), rfl, h2, h3, (fun e => by cases e), fun i j hij _ => mono_all hL (i + 1) j hij, fun j c zs hj => ?_⟩
  have hjl := (List.getElem?_eq_some_iff.1 hj).1
  obtain ⟨u, c0, f0, c1, f1, hr, _⟩ := hc j c zs hj
  have := mono_all hL 0 j (Nat.zero_le _)
  exact ⟨g, u, rfl, hb, hg, .inl (by omega), by omega, hm _, c0, f0, c1, f1, hr hjl⟩
/-- One more segment gets a row of its own. -/
theorem PlanAt.next {w w' : World} {h0 g i : Nat} {L : Nat → Nat} {cs : List (Int × List Int)} {c : Int} {zs : List Int} {u : Value} (h : PlanAt w h0 g i L cs) (hg0 : h0 ≤ g) (hi : cs[i]? = some (c, zs)) (hb : Below w.heap.size w w') (hr : Row w' w.heap.size w'.heap.size u zs) :
    PlanAt (w'.setCell ⟨g, i * 2 + 1, none⟩ u) h0 g (i + 1) (fun j => if j ≤ i then L j else w'.heap.size) cs := by
  obtain ⟨hL, hgL, hm, hc⟩ := h
  have hs := hb.size
  have hm0 := mono_all hL
  refine ⟨fun j => ?_, by simp; exact hgL, fun j => ?_, fun j c' ys hj => ?_⟩
  · show (if j ≤ i then L j else w'.heap.size) ≤ (if j + 1 ≤ i then L (j + 1) else w'.heap.size)
    have := hL j
    have := hm j
    split <;> split <;> omega
  · show (if j ≤ i then L j else w'.heap.size) ≤ _
    have := hm j
    simp
    split <;> omega
  · obtain ⟨u0, c0, f0, c1, f1, k1, k2⟩ := hc j c' ys hj
    have hgw : g < w.heap.size := cell_blk _ _ _ c0
    have hcell (k : Nat) : w'.cell? ⟨g, k, none⟩ = w.cell? ⟨g, k, none⟩ := hb.cell (p := ⟨g, k, none⟩) hgw
    have hfro (k : Nat) : w'.frozen? ⟨g, k, none⟩ = w.frozen? ⟨g, k, none⟩ := World.frozen?_of_block (w := w) (hb.block g hgw)
    have hA : Apart g (g + 1) w' (w'.setCell ⟨g, i * 2 + 1, none⟩ u) := Apart.of_onto (Onto.setCell g (i * 2 + 1) w' _) (Nat.le_refl _) (Nat.lt_succ_self _)
    by_cases e : j = i
    · subst e
      rw [hi] at hj
      injection hj with hj
      injection hj with e1 e2
      subst e1 e2
      refine ⟨u, ?_, ?_, World.cell?_setCell_same _ _ _ (by rw [hcell]; exact c1), ?_, fun _ => ?_, fun h => by omega⟩
      · rw [World.cell?_setCell_other _ _ _ _ (by intro h; injection h; omega), hcell]; exact c0
      · have : w'.frozen? ⟨g, j * 2, none⟩ = false := by rw [hfro]; exact f0
        simpa using this
      · have : w'.frozen? ⟨g, j * 2 + 1, none⟩ = false := by rw [hfro]; exact f1
        simpa using this
      · simp only [Nat.le_refl, if_true, show ¬ j + 1 ≤ j by omega, if_false]
        exact (hr.mono (hm j) (Nat.le_refl _)).apart hA (by have := hm0 0 j (Nat.zero_le _); omega)
    · refine ⟨u0, ?_, ?_, ?_, ?_, fun h => ?_, fun h => ?_⟩
      · rw [World.cell?_setCell_other _ _ _ _ (by intro h; injection h; omega), hcell]; exact c0
      · have : w'.frozen? ⟨g, j * 2, none⟩ = false := by rw [hfro]; exact f0
        simpa using this
      · rw [World.cell?_setCell_other _ _ _ _ (by intro h; injection h; omega), hcell]; exact c1
      · have : w'.frozen? ⟨g, j * 2 + 1, none⟩ = false := by rw [hfro]; exact f1
        simpa using this
      · have hji : j < i := by omega
        simp only [show j ≤ i by omega, show j + 1 ≤ i by omega, if_true]
        exact ((k1 hji).below hb).apart hA (by have := hm0 0 j (Nat.zero_le _); omega)
      · exact ((k2 (by omega)).below hb).apart hA (.inl (by omega))
set_option maxHeartbeats 1600000 in
theorem planOf_any (B K : Nat) (ad : Nat → Addr) (nn cp : Nat → Nat) (us : Nat → List Value) (cs : List (Int × List Int)) (w : World) (hK : K ≤ 1000) (hc : ∀ k, k < K → w.cell? ⟨B, k, none⟩ = some (.slice (some (ad k)) (nn k) (cp k))) (hp : ∀ k, k < K → PartF w (ad k) (nn k) (cp k) (us k)) (hcs : CellsSg w w.heap.size (catU us K) cs) (hn : sumN nn K = cs.length) (h1 : 1 ≤ cs.length) (h2 : cs.length ≤ 2097152) (hz : ∀ c zs, (c, zs) ∈ cs → 1 ≤ zs.length ∧ zs.length ≤ 1048576) :
    Calls Try.prog 52 #[.slice (some ⟨B, 0, none⟩) K K] w (NewAp cs w) := by
  have HCO := hidH (concatSg_any B K ad nn cp us w hK hc hp (by omega) (by omega))
  have HCS := hidH hcs
  have HZ := hidH hz
  clear hc hp hcs hz
  rw [hn] at HCO
  clear hn
  go_enter Try.func52, Try.ntmps52
  go_wp2_with fail
  refine HCO.out.mono ?_; rintro e w1 ⟨v, rfl, hown, hb⟩
  obtain ⟨g, cap, rfl, hg1, hg2, hn2, hn3, hpa⟩ := PlanAt.start (HCS.out.below hb) hown h1
  have HPA := hidH hpa
  have HB := hidH hb
  have HN3 := hidH hn3
  unfold maxLen at hn3
  clear hown hb hpa HCO
  go_wp2_with fail
  go_loopw [9] (fun i wr => ∃ (k : Nat) (L : Nat → Nat), k ≤ cs.length ∧ i = .int .i64 k ∧ g < wr.heap.size ∧ PlanAt wr w.heap.size g k L cs ∧ Below w.heap.size w wr) (fun i _ => cs.length - (intOf i).toNat)
  case atStart => exact ⟨0, _, Nat.zero_le _, rfl, hg2, HPA.out, HB.out⟩
  case round =>
    obtain ⟨k, L, hk, rfl, hgr, hpa, hb⟩ := hrel
    have HPr := hidH hpa
    have HBr := hidH hb
    clear hpa hb
    by_cases hlt : k < cs.length
    · obtain ⟨x, hx⟩ : ∃ x, cs[k]? = some x := ⟨cs[k], List.getElem?_eq_getElem hlt⟩
      obtain ⟨c, zs⟩ := x
      have hzz := HZ.out c zs (List.mem_of_getElem? hx)
      obtain ⟨u, c0, f0, c1, f1, _, hl⟩ := HPr.out.2.2.2 k c zs hx
      have hl := hl (Nat.le_refl _)
      obtain ⟨ua, uc, rfl⟩ := hl.some
      have HCL := hidH (clone_any _ zs wr _ _ hl hzz.1 hzz.2)
      have HX := hidH hx
      have HC1 := hidH c1
      have HF1 := hidH f1
      clear hx hl c0 f0 f1 hzz
      go_wp2_with fail
      refine HCL.out.mono ?_; rintro e w3 ⟨v3, rfl, hr, hb⟩
      have c1' : w3.cell? ⟨g, k * 2 + 1, none⟩ = some (.slice ua zs.length uc) := by rw [hb.cell (p := ⟨g, k * 2 + 1, none⟩) hgr]; exact HC1.out
      have f1' : w3.frozen? ⟨g, k * 2 + 1, none⟩ = false := by rw [World.frozen?_of_block (w := wr) (hb.block g hgr)]; exact HF1.out
      have HNX := hidH (HPr.out.next hg1 HX.out hb hr)
      have HB3 := hidH ((bThen HBr.out hb).setCell (p := ⟨g, k * 2 + 1, none⟩) hg1 v3)
      have hg3 : g < (w3.setCell ⟨g, k * 2 + 1, none⟩ v3).heap.size := by simp; exact Nat.lt_of_lt_of_le hgr hb.size
      have HG3 := hidH hg3
      obtain ⟨v3a, v3c, rfl⟩ := hr.some
      clear hr hb HPr c1 hg3
      go_wp2_with fail
      go_roundw
      case rel => exact ⟨k + 1, _, by omega, by go_num, HG3.out, HNX.out, HB3.out⟩
      case measure => simp [intOf]; omega
    · obtain rfl : k = cs.length := by omega
      go_wp2_with fail
      go_ret
      exact ⟨_, rfl, HPr.out.ap hg1 hgr hn2 HN3.out, HBr.out⟩
end Go.Proofs.Ytgnoclnenhmakaa
