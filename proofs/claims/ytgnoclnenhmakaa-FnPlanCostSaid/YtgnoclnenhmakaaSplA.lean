/-
  The library's concatenation of slices of segments. Condition: at most 2097152 segments.
-/
import Derived.Test.YtgnoclnenhmakaaPlfR
import Derived.Test.YtgnoclnenhmakaaPolyM
namespace Go.Proofs.Ytgnoclnenhmakaa
set_option maxRecDepth 4000
open Go.RowKit
theorem growSg_any (n : Nat) (h1 : 1 ≤ n) (h2 : n ≤ 2097152) (w : World) : Calls Try.prog 100 #[.slice none 0 0, .int .i64 n] w fun e w' => ∃ v, e = .returned v ∧ w'.ownsRow w.heap.size 39 2 v 0 [] ∧ Below w.heap.size w w' := by
  obtain ⟨i0, hi0, hz0, hz1, hz2⟩ := info_parts info_sg
  have hrz : ∀ ty, (Builtin.append_ #[23, 3] ty #[.slice none 0 0, .int .i64 n]).run Try.prog w = .ok _ _ := fun ty =>
    Lib.run_append_nil_zeros (P := Try.prog) w 23 3 ty 39 i0 (.agg #[.int .i64 0, .slice none 0 0]) .i64 .i64 Try.underlying23 Try.underlying3 hi0 hz0 n (by omega) (by omega) (by omega) (by rw [hz2]; omega)
  have hGn : n ≤ grownCap w n 0 39 := grownCap_ge w _ _ _
  have hG63 : grownCap w n 0 39 ≤ maxLen := grownCap_le_maxLen w n 0 39 (by unfold maxLen; omega)
  generalize grownCap w n 0 39 = G at *
  have hown : ((w.drew.alloc (.cells (Builtin.zeroCells (Value.agg #[.int .i64 0, .slice none 0 0]).cells n ++ Builtin.zeroCells (Value.agg #[.int .i64 0, .slice none 0 0]).cells (G - n)) 39))).ownsRow w.heap.size 39 2 (.slice (some ⟨w.drew.heap.size, 0, none⟩) 0 G) 0 [] :=
    World.ownsRow_made w.drew _ G (Nat.le_refl _) hG63 (by simp [Builtin.zeroCells, Value.cells]; omega)
  have HO := hidH hown
  have hbel : Below w.heap.size w (w.drew.alloc (.cells (Builtin.zeroCells (Value.agg #[.int .i64 0, .slice none 0 0]).cells n ++ Builtin.zeroCells (Value.agg #[.int .i64 0, .slice none 0 0]).cells (G - n)) 39)) := (Below.refl _ _).drew.alloc (Nat.le_refl _) _
  have HB := hidH hbel
  clear hown hbel
  unfold maxLen at hG63
  go_enter Try.func100, Try.ntmps100
  go_wp2_with (at_builtin; refine Lib.wpList_append_run _ rfl _ _ _ _ rfl _ _ rfl rfl _ _ (hrz _) ?_)
  all_goals (go_ret; exact ⟨_, rfl, HO.out, HB.out⟩)
/-- The number of elements of the first parts, and their cells. -/
def sumN (nn : Nat → Nat) : Nat → Nat
  | 0 => 0
  | k + 1 => sumN nn k + nn k
def catU (us : Nat → List Value) : Nat → List Value
  | 0 => []
  | k + 1 => catU us k ++ us k
theorem sumN_mono (nn : Nat → Nat) (k m : Nat) (h : k ≤ m) : sumN nn k ≤ sumN nn m := by
  induction m with
  | zero => obtain rfl : k = 0 := by omega
            exact Nat.le_refl _
  | succ m ih =>
    by_cases e : k = m + 1
    · subst e; exact Nat.le_refl _
    · exact Nat.le_trans (ih (by omega)) (Nat.le_add_right _ _)
/-- A part of a concatenation: n segments at an address, whose cells are us. -/
def PartF (w : World) (ad : Addr) (n cap : Nat) (us : List Value) : Prop := us.length = n * 2 ∧ n ≤ cap ∧ cap ≤ maxLen ∧ (∀ (j : Nat) u, us[j]? = some u → w.cell? (ad.add j) = some u) ∧ ∀ u ∈ us, u.oneCell' = true
theorem PartF.below {w w' : World} {ad : Addr} {n cap : Nat} {us : List Value} (h : PartF w ad n cap us) (hb : Below w.heap.size w w') : PartF w' ad n cap us :=
  ⟨h.1, h.2.1, h.2.2.1, fun j u hj => by
    have hc := h.2.2.2.1 j u hj
    rw [hb.cell (p := ad.add j) (cell_blk _ _ _ hc)]; exact hc, h.2.2.2.2⟩
set_option maxHeartbeats 1600000 in
theorem concatSg_any (B K : Nat) (ad : Nat → Addr) (nn cp : Nat → Nat) (us : Nat → List Value) (w : World) (hK : K ≤ 1000) (hc : ∀ k, k < K → w.cell? ⟨B, k, none⟩ = some (.slice (some (ad k)) (nn k) (cp k))) (hp : ∀ k, k < K → PartF w (ad k) (nn k) (cp k) (us k)) (h1 : 1 ≤ sumN nn K) (h2 : sumN nn K ≤ 2097152) :
    Calls Try.prog 83 #[.slice (some ⟨B, 0, none⟩) K K] w fun e w' => ∃ v, e = .returned v ∧ w'.ownsRow w.heap.size 39 2 v (sumN nn K) (catU us K) ∧ Below w.heap.size w w' := by
  obtain ⟨i0, hi0, hz0, hz1, hz2⟩ := info_parts info_sg
  have HC := hidH hc
  have HP := hidH hp
  have HM := hidH (fun k (hk : k ≤ K) => sumN_mono nn k K hk)
  have HG := hidH (growSg_any (sumN nn K) h1 h2 w)
  clear hc hp
  go_enter Try.func83, Try.ntmps83
  go_wp2_with fail
  go_loop [3, 11] (fun s i => ∃ k : Nat, k ≤ K ∧ i = .int .i64 k ∧ s = .int .i64 (sumN nn k : Nat)) (fun _ i => K - (intOf i).toNat)
  case atStart => exact ⟨0, Nat.zero_le _, rfl, rfl⟩
  case round =>
    obtain ⟨k, hk, rfl, rfl⟩ := hrel
    by_cases hlt : k < K
    · have c0 := HC.out k hlt
      have hm := HM.out (k + 1) hlt
      have HS := hidH (show sumN nn (k + 1) = sumN nn k + nn k from rfl)
      obtain ⟨q, hq⟩ : ∃ q, q = sumN nn (k + 1) := ⟨_, rfl⟩
      have hsm : (sumN nn k : Int) + (nn k : Int) = (q : Int) := by rw [hq, HS.out]; omega
      rw [← hq] at hm
      have HQ := hidH hq
      clear hq
      generalize sumN nn k = sk at *
      generalize nn k = nk at *
      go_wp2_with fail
      go_round
      case rel => exact ⟨k + 1, by omega, by go_num, by rw [← HQ.out]⟩
      case measure => simp [intOf]; omega
    · obtain rfl : k = K := by omega
      go_wp2_with fail
      refine HG.out.mono ?_; rintro e w1 ⟨v, rfl, hown, hb⟩
      have HW := hidH hown
      have HB := hidH hb
      clear hown hb
      go_wp2_with fail
      go_loopw [6, 27] (fun ns i wr => ∃ (j : Nat) (ov : Value), j ≤ k ∧ i = .int .i64 j ∧ ov = ns ∧ wr.ownsRow w.heap.size 39 2 ov (sumN nn j) (catU us j) ∧ Below w.heap.size w wr) (fun _ i _ => k - (intOf i).toNat)
      case atStart => exact ⟨0, v, Nat.zero_le _, rfl, rfl, HW.out, HB.out⟩
      case round =>
        obtain ⟨j, ov, hj, rfl, rfl, hown, hb⟩ := hrel
        have HWq := hidH hown
        have HBq := hidH hb
        have hsq := hb.size
        clear hown hb
        by_cases hlt : j < k
        · have q0 := HC.out j hlt
          have c0 : wr.cell? ⟨B, j, none⟩ = some (.slice (some (ad j)) (nn j) (cp j)) := by rw [HBq.out.cell (p := ⟨B, j, none⟩) (cell_blk _ _ _ q0)]; exact q0
          obtain ⟨p1, p2, p3, p4, p5⟩ := (HP.out j hlt).below HBq.out
          have hm := HM.out (j + 1) hlt
          have HS := hidH (show sumN nn (j + 1) = sumN nn j + nn j from rfl)
          have HU := hidH (show catU us (j + 1) = catU us j ++ us j from rfl)
          have HP1 := hidH p1
          have HP4 := hidH p4
          have HP5 := hidH p5
          rw [HS.out] at hm
          generalize sumN nn j = sj at *
          generalize nn j = nj at *
          generalize cp j = cj at *
          generalize ad j = aj at *
          unfold maxLen at p3
          clear q0 p1 p4 p5
          go_wp2_with (at_builtin; refine wpList_append_own _ rfl _ _ 23 rfl w.heap.size 39 i0 _ 2 32 Try.underlying23 hi0 hz0 hz1 hz2 rfl (by decide) ov sj (catU us j) rfl HWq.out aj nj cj (us j) rfl HP1.out HP4.out HP5.out (by unfold maxLen; omega) (by omega) (by omega) ?_)
          intro v' w2 hown1 hgrow _
          have HR := hidH hown1
          have HBn := hidH (HBq.out.trans (Below.of_grown hgrow hsq fun g hg => (HWq.out.lt g hg).1))
          clear hown1 hgrow
          go_wp2_with fail
          go_roundw
          case rel => exact ⟨j + 1, v', by omega, by go_num, rfl, by rw [HS.out, HU.out]; exact HR.out, HBn.out⟩
          case measure => simp [intOf]; omega
        · obtain rfl : j = k := by omega
          go_wp2_with fail
          go_ret
          exact ⟨ov, rfl, HWq.out, HBq.out⟩
end Go.Proofs.Ytgnoclnenhmakaa
