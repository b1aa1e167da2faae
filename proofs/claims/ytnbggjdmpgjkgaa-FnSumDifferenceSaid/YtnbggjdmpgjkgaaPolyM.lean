/-
  The library's concatenation of two slices, and SumPoly: the program and the model, at every argument. Condition: slices of at most 1048576 numbers.
-/
import Derived.Test.YtnbggjdmpgjkgaaPolyT
import Derived.Test.YtnbggjdmpgjkgaaPolyV
import Derived.Lib.AppendZeros
import Derived.Laws.AppendOwnNone
namespace Go.Proofs.Ytnbggjdmpgjkgaa
open Go.RowKit
theorem growNil_any (n : Nat) (h1 : 1 ≤ n) (h2 : n ≤ 2097152) (w : World) : Calls Try.prog 65 #[.slice none 0 0, .int .i64 n] w fun e w' => ∃ v, e = .returned v ∧ w'.ownsRow w.heap.size 3 1 v 0 [] ∧ Below w.heap.size w w' := by
  obtain ⟨i0, hi0, hz0, hz1, hz2⟩ := info_parts infoInt
  have hrz : ∀ ty, (Builtin.append_ #[28, 3] ty #[.slice none 0 0, .int .i64 n]).run Try.prog w = .ok _ _ := fun ty =>
    Lib.run_append_nil_zeros (P := Try.prog) w 28 3 ty 3 i0 (.int .i64 0) .i64 .i64 Try.underlying28 Try.underlying3 hi0 hz0 n (by omega) (by omega) (by omega) (by rw [hz2]; omega)
  have hGn : n ≤ grownCap w n 0 3 := grownCap_ge w _ _ _
  have hG63 : grownCap w n 0 3 ≤ maxLen := grownCap_le_maxLen w n 0 3 (by unfold maxLen; omega)
  generalize grownCap w n 0 3 = G at *
  have hown : ((w.drew.alloc (.cells (Builtin.zeroCells (Value.int .i64 0).cells n ++ Builtin.zeroCells (Value.int .i64 0).cells (G - n)) 3))).ownsRow w.heap.size 3 1 (.slice (some ⟨w.drew.heap.size, 0, none⟩) 0 G) 0 [] :=
    World.ownsRow_made w.drew _ G (Nat.le_refl _) hG63 (by simp [Builtin.zeroCells, Value.cells]; omega)
  have HO := hidH hown
  have hbel : Below w.heap.size w (w.drew.alloc (.cells (Builtin.zeroCells (Value.int .i64 0).cells n ++ Builtin.zeroCells (Value.int .i64 0).cells (G - n)) 3)) := (Below.refl _ _).drew.alloc (Nat.le_refl _) _
  have HB := hidH hbel
  clear hown hbel
  unfold maxLen at hG63
  go_enter Try.func65, Try.ntmps65
  go_wp2_with (at_builtin; refine Lib.wpList_append_run _ rfl _ _ _ _ rfl _ _ rfl rfl _ _ (hrz _) ?_)
  all_goals (go_ret; exact ⟨_, rfl, HO.out, HB.out⟩)
set_option maxHeartbeats 800000 in
theorem concat_any (B : Nat) (v0 v1 : Value) (x : Int) (zs : List Int) (w : World) (hl : zs.length ≤ 1048576) (hB : B < w.heap.size) (hc0 : w.cell? ⟨B, 0, none⟩ = some v0) (hc1 : w.cell? ⟨B, 1, none⟩ = some v1) (hv0 : Lies w 0 w.heap.size v0 [x]) (hv1 : Lies w 0 w.heap.size v1 zs) (hz : 0 < zs.length) :
    Calls Try.prog 58 #[.slice (some ⟨B, 0, none⟩) 2 2] w (NewRow (x :: zs) w) := by
  obtain ⟨i0, hi0, hz0, hz1, hz2⟩ := info_parts infoInt
  obtain ⟨b0, off0, cap0, rfl, hlc0, hcm0, _, _, _, hcell0⟩ := hv0.addr (by simp)
  obtain ⟨b1, off1, cap1, rfl, hlc1, hcm1, _, _, _, hcell1⟩ := hv1.addr hz
  have HC0 := hidH (cells_map hcell0)
  have HC1 := hidH (cells_map hcell1)
  have HK0 := hidH hc0
  have HK1 := hidH hc1
  rw [List.length_singleton] at hlc0 hc0
  have HO0 := hidH (oneCells [x])
  have HO1 := hidH (oneCells zs)
  have HJ := hidH (show ints [x] ++ ints zs = ints (x :: zs) from rfl)
  unfold maxLen at hcm0 hcm1
  clear hcell0 hcell1 hv0 hv1
  go_enter Try.func58, Try.ntmps58
  go_wp2_with fail
  go_loop [3, 11] (fun s i => (i = .int .i64 0 ∧ s = .int .i64 0) ∨ (i = .int .i64 1 ∧ s = .int .i64 1) ∨ (i = .int .i64 2 ∧ s = .int .i64 (1 + (zs.length : Int)))) (fun _ i => (2 - intOf i).toNat)
  case atStart => exact .inl ⟨rfl, rfl⟩
  case round =>
    rcases hrel with ⟨rfl, rfl⟩ | ⟨rfl, rfl⟩ | ⟨rfl, rfl⟩
    · go_wp2_with fail
      go_round
      case rel => exact .inr (.inl ⟨rfl, rfl⟩)
      case measure => simp [intOf]
    · go_wp2_with fail
      go_round
      case rel => exact .inr (.inr ⟨rfl, rfl⟩)
      case measure => simp [intOf]
    · have HG := hidH (growNil_any (1 + zs.length) (by omega) (by omega) w)
      have he : (((1 + zs.length : Nat)) : Int) = 1 + (zs.length : Int) := by omega
      have hG := HG.out
      rw [he] at hG
      have HG2 := hidH hG
      clear hG HG he
      go_wp2_with fail
      refine HG2.out.mono ?_; rintro e w1 ⟨v, rfl, hown, hb⟩
      have HW := hidH hown
      have HB := hidH hb
      have hs1 := hb.size
      clear hown hb
      go_wp2_with fail
      have HL0 := hidH (show (ints [x]).length = 1 * 1 from rfl)
      have HL1 := hidH (show (ints zs).length = zs.length * 1 by rw [ints_length, Nat.mul_one])
      clear hc0 hc1
      go_loopw [6, 27] (fun ns i wr => ∃ ov, ov = ns ∧ Below w.heap.size w wr ∧ ((i = .int .i64 0 ∧ wr.ownsRow w.heap.size 3 1 ov 0 []) ∨ (i = .int .i64 1 ∧ wr.ownsRow w.heap.size 3 1 ov 1 (ints [x])) ∨ (i = .int .i64 2 ∧ wr.ownsRow w.heap.size 3 1 ov (1 + zs.length) (ints (x :: zs))))) (fun _ i _ => (2 - intOf i).toNat)
      case atStart => exact ⟨v, rfl, HB.out, .inl ⟨rfl, HW.out⟩⟩
      case round =>
        obtain ⟨ov, rfl, hb, hrel⟩ := hrel
        have HBq := hidH hb
        have hsq := hb.size
        have hcw0 : wr.cell? ⟨B, 0, none⟩ = some (.slice (some ⟨b0, off0, none⟩) [x].length cap0) := by rw [HBq.out.cell (p := ⟨B, 0, none⟩) hB]; exact HK0.out
        have hcw1 : wr.cell? ⟨B, 1, none⟩ = some (.slice (some ⟨b1, off1, none⟩) zs.length cap1) := by rw [HBq.out.cell (p := ⟨B, 1, none⟩) hB]; exact HK1.out
        rw [List.length_singleton] at hcw0
        clear hb
        rcases hrel with ⟨rfl, hown⟩ | ⟨rfl, hown⟩ | ⟨rfl, hown⟩
        · have HWq := hidH hown
          clear hown
          go_wp2_with (at_builtin; refine wpList_append_own _ rfl _ _ 28 rfl w.heap.size 3 i0 (.int .i64 0) 1 8 Try.underlying28 hi0 hz0 hz1 hz2 rfl (by decide) ov 0 [] rfl HWq.out ⟨b0, off0, none⟩ 1 cap0 (ints [x]) rfl HL0.out (HC0.out _ HBq.out) HO0.out (by unfold maxLen; omega) (by omega) (by omega) ?_)
          intro v' w2 hown1 hgrow _
          have HR := hidH hown1
          have HBn := hidH (HBq.out.trans (Below.of_grown hgrow hsq fun g hg => (HWq.out.lt g hg).1))
          clear hown1 hgrow
          go_wp2_with fail
          go_roundw
          case rel => exact ⟨v', rfl, HBn.out, .inr (.inl ⟨rfl, HR.out⟩)⟩
          case measure => simp [intOf]
        · have HWq := hidH hown
          clear hown
          go_wp2_with (at_builtin; refine wpList_append_own _ rfl _ _ 28 rfl w.heap.size 3 i0 (.int .i64 0) 1 8 Try.underlying28 hi0 hz0 hz1 hz2 rfl (by decide) ov 1 (ints [x]) rfl HWq.out ⟨b1, off1, none⟩ zs.length cap1 (ints zs) rfl HL1.out (HC1.out _ HBq.out) HO1.out (by unfold maxLen; omega) (by omega) (by omega) ?_)
          intro v' w2 hown1 hgrow _
          have HR := hidH hown1
          have HBn := hidH (HBq.out.trans (Below.of_grown hgrow hsq fun g hg => (HWq.out.lt g hg).1))
          clear hown1 hgrow
          go_wp2_with fail
          go_roundw
          case rel => exact ⟨v', rfl, HBn.out, .inr (.inr ⟨rfl, by have h := HR.out; rw [HJ.out] at h; exact h⟩)⟩
          case measure => simp [intOf]
        · have HWq := hidH hown
          clear hown
          go_wp2_with fail
          go_ret
          exact ⟨ov, rfl, (row_of_owns HWq.out).1, HBq.out⟩
/-- What SumPoly answers. -/
def sumA (zs : List Int) (c : Int) : List Int := if polyOk zs then resL (c :: zs) else []
def sumB (zs : List Int) (c : Int) : Bool := polyOk zs && polyOk (c :: zs)
theorem sumA_len (zs : List Int) (c : Int) : (sumA zs c).length ≤ 1048576 := by unfold sumA; split <;> first | exact resL_len _ | simp
theorem ifP_any (v : Value) (zs : List Int) (w : World) (lo : Nat) (hv : Row w lo w.heap.size v zs) : Calls Try.prog 54 #[v] w fun e w' => ∃ v', e = .returned (.tuple #[v', .bool (polyOk zs)]) ∧ Row w' lo w'.heap.size v' (resL zs) ∧ Below w.heap.size w w' := by
  have HV := hidH hv
  clear hv
  cases h : polyOk zs
  · have HZ := hidH h
    have HE := hidH (show resL zs = [] by rw [resL, h]; rfl)
    clear h
    go_enter Try.func54, Try.ntmps54
    go_wp2_with fail
    refine (polyValid_any v zs _ _ _ HV.out.lies).mono ?_; rintro e w1 ⟨rfl, hb⟩
    rw [HZ.out]
    go_wp2_with fail
    go_ret2
    exact ⟨_, rfl, by rw [HE.out]; exact Row.nil _ _ _ _ _ (Nat.zero_le _) (fun _ => rfl), hb⟩
  · have HZ := hidH h
    have HE := hidH (show resL zs = zs by rw [resL, h]; rfl)
    clear h
    go_enter Try.func54, Try.ntmps54
    go_wp2_with fail
    refine (polyValid_any v zs _ _ _ HV.out.lies).mono ?_; rintro e w1 ⟨rfl, hb⟩
    rw [HZ.out]
    have HB := hidH hb
    clear hb
    go_wp2_with fail
    go_ret2
    exact ⟨_, rfl, by rw [HE.out]; exact (HV.out.below HB.out).mono (Nat.le_refl _) HB.out.size, HB.out⟩
theorem sum_any (v : Value) (zs : List Int) (c : Int) (w : World) (lo hi : Nat) (hv : Lies w lo hi v zs) : Calls Try.prog 30 #[v, .int .i64 c] w (NewRowB (sumA zs c) (sumB zs c) w) := by
  have HV := hidH hv
  clear hv
  cases h : polyOk zs
  · have HEA := hidH (show sumA zs c = [] by rw [sumA, h]; rfl)
    have HEB := hidH (show sumB zs c = false by rw [sumB, h]; rfl)
    have HZ := hidH h
    clear h
    go_enter Try.func30, Try.ntmps30
    go_wp2_with fail
    refine (polyValid_any v zs _ _ _ HV.out).mono ?_; rintro e w1 ⟨rfl, hb⟩
    rw [HZ.out]
    go_wp2_with fail
    go_ret2
    rw [HEA.out, HEB.out]
    exact ⟨_, rfl, Row.nil _ _ _ _ _ (Nat.zero_le _) (fun _ => rfl), hb⟩
  · have HEA := hidH (show sumA zs c = resL (c :: zs) by rw [sumA, h]; rfl)
    have HEB := hidH (show sumB zs c = polyOk (c :: zs) by rw [sumB, h]; rfl)
    have ⟨h1, hs⟩ := polyOk_small _ h
    have h7 := hs.1
    have HZ := hidH h
    obtain ⟨bz, oz, cz, rfl, _⟩ := HV.out.addr (by omega)
    clear h hs
    go_enter Try.func30, Try.ntmps30
    go_wp2_with fail
    refine (polyValid_any _ zs _ _ _ HV.out).mono ?_; rintro e w1 ⟨rfl, hb⟩
    rw [HZ.out]
    have HB := hidH hb
    have HV1 := hidH (HV.out.below hb).top
    clear hb
    have HCC := hidH fun (t : Nat) => concat_any (w1.heap.size + 1) (.slice (some ⟨w1.heap.size, 0, none⟩) 1 1) (.slice (some ⟨bz, oz, none⟩) zs.length cz) c zs ((w1.alloc (.cells #[.int .i64 c] 3)).alloc (.cells #[.slice (some ⟨w1.heap.size, 0, none⟩) 1 1, .slice (some ⟨bz, oz, none⟩) zs.length cz] t)) (by omega) (by simp) (by simp) (by simp)
      (((Blk.lit w1 3 [c]).below ((Below.refl _ _).alloc (Nat.le_refl _) _)).row (lo := 0) (hi := _) (cap := 1) (n := 1) (Nat.zero_le _) (by simp; omega) (Nat.le_refl _) (show 1 ≤ maxLen by unfold maxLen; decide) rfl).lies
      (((HV1.out.below ((Below.refl _ w1).alloc (Nat.le_refl _) (.cells #[.int .i64 c] 3))).below ((Below.refl _ _).alloc (Nat.le_refl _) _)).top) (by omega)
    go_wp2_with fail
    refine (HCC.out _).mono ?_; rintro e w2 ⟨v1, rfl, hr, hb⟩
    have HR := hidH hr
    have HB2 := hidH (HB.out.trans ((((Below.refl _ w1).alloc (Nat.le_refl _) _).trans (((Below.refl _ _).alloc (Nat.le_refl _) _).mono (by simp))).trans (hb.mono (by simp; omega)) |>.mono HB.out.size))
    have hsz := HB.out.size
    clear hr hb
    go_wp2_with fail
    refine (ifP_any v1 _ _ _ HR.out).mono ?_; rintro e w3 ⟨v2, rfl, hr, hb⟩
    have HR3 := hidH hr
    have HB3 := hidH (HB2.out.trans (hb.mono HB2.out.size))
    clear hr hb
    generalize polyOk (c :: zs) = r at *
    go_wp2_with fail
    go_ret2
    rw [HEA.out, HEB.out]
    exact ⟨_, rfl, HR3.out.mono (by simp; omega) (Nat.le_refl _), HB3.out⟩
theorem owns_lit (w : World) (c : Int) (e : Nat) : (w.alloc (.cells #[.int .i64 c] e)).ownsRow w.heap.size e 1 (.slice (some ⟨w.heap.size, 0, none⟩) 1 1) 1 (ints [c]) :=
  ⟨rfl, .inr ⟨w.heap.size, 1, #[.int .i64 c], rfl, Nat.le_refl _, heap_alloc_new w _, Nat.le_refl _, by unfold maxLen; decide, rfl, rfl⟩⟩
theorem lies_cells {w : World} {lo hi n cap : Nat} {x : Addr} {zs : List Int} (H : Lies w lo hi (.slice (some x) n cap) zs) (w' : World) (hb : Below w.heap.size w w') : ∀ (j : Nat) u, (ints zs)[j]? = some u → w'.cell? (x.add j) = some u := by
  obtain ⟨a, c, h1, _, _, _, h5⟩ := H
  intro j u hj
  have hjl : j < zs.length := by have := (List.getElem?_eq_some_iff.1 hj).1; rwa [ints_length] at this
  obtain ⟨b, off, e, _, _, _⟩ := h5 0 _ (List.getElem?_eq_getElem (by omega))
  injection h1 with e1 e2 e3
  rw [← e1] at e
  injection e with e
  subst e
  refine cells_map (w := w) (zs := zs) (fun k z hk => ?_) w' hb j u hj
  obtain ⟨b2, off2, e4, _, _, hc⟩ := h5 k z hk
  rw [← e1] at e4
  injection e4 with e4; injection e4 with e4 e5
  subst e4; subst e5
  exact hc
theorem sSum_any (v : Value) (zs : List Int) (c : Int) (w : World) (lo hi : Nat) (hv : Lies w lo hi v zs) (hn : zs.length ≤ 1048576) : Calls Try.prog 31 #[v, .int .i64 c] w (NewRowB (sumA zs c) (sumB zs c) w) := by
  obtain ⟨i0, hi0, hz0, hz1, hz2⟩ := info_parts infoInt
  have HV := hidH hv
  have HO := hidH (owns_lit w c 3)
  have H1 := hidH (oneCells zs)
  have HJ := hidH (show ints [c] ++ ints zs = ints (c :: zs) from rfl)
  obtain ⟨a, cap, rfl, hlc, hcm, hnil, _⟩ := hv
  cases a with
  | none =>
    obtain rfl : cap = 0 := hnil rfl
    obtain rfl : zs = [] := List.eq_nil_of_length_eq_zero (by omega)
    have HEA := hidH (show sumA [] c = [] from rfl)
    have HEB := hidH (show sumB [] c = false from rfl)
    have HZ := hidH (show polyOk [] = false from rfl)
    clear hnil hlc hcm hn
    go_enter Try.func31, Try.ntmps31
    go_wp2_with (at_builtin; refine wpList_append_own_none rfl _ _ 28 rfl w.heap.size 3 i0 1 Try.underlying28 hi0 _ 1 (ints [c]) rfl HO.out rfl ?_)
    refine (sPolyValid_gives _ [] _ _ _ (HV.out.below ((Below.refl _ w).alloc (Nat.le_refl _) _))).mono ?_; rintro e w2 ⟨rfl, hb⟩
    rw [HZ.out]
    have HB2 := hidH (((Below.refl _ w).alloc (Nat.le_refl _) _).trans (hb.mono (by simp)))
    clear hb
    go_wp2_with fail
    go_ret2
    rw [HEA.out, HEB.out]
    exact ⟨_, rfl, Row.nil _ _ _ _ _ (Nat.zero_le _) (fun _ => rfl), HB2.out.trans (((Below.refl _ _).alloc (Nat.le_refl _) _).mono HB2.out.size)⟩
  | some x =>
    have HCS := hidH (lies_cells HV.out)
    unfold maxLen at hcm
    clear hnil
    go_enter Try.func31, Try.ntmps31
    go_wp2_with (at_builtin; refine wpList_append_own _ rfl _ _ 28 rfl w.heap.size 3 i0 (.int .i64 0) 1 8 Try.underlying28 hi0 hz0 hz1 hz2 rfl (by decide) _ 1 (ints [c]) rfl HO.out x zs.length cap (ints zs) rfl (by rw [ints_length, Nat.mul_one]) (HCS.out _ ((Below.refl _ _).alloc (Nat.le_refl _) _)) H1.out (by unfold maxLen; omega) (by omega) (by simp) ?_)
    intro v' w1 hown hgrow _
    have HRW := hidH (row_of_owns (zs := c :: zs) (by rw [← HJ.out]; exact hown)).1
    have HB := hidH (((Below.refl _ w).alloc (Nat.le_refl _) (.cells #[.int .i64 c] 3)).grown hgrow (by simp) (by intro k hk; simp [Value.ownBlock] at hk; omega))
    have HV1 := hidH (HV.out.below HB.out)
    clear hown hgrow
    cases h : polyOk zs
    · have HEA := hidH (show sumA zs c = [] by rw [sumA, h]; rfl)
      have HEB := hidH (show sumB zs c = false by rw [sumB, h]; rfl)
      have HZ := hidH h
      clear h
      go_wp2_with fail
      refine (sPolyValid_gives _ zs _ _ _ HV1.out).mono ?_; rintro e w2 ⟨rfl, hb⟩
      rw [HZ.out]
      have HB2 := hidH (HB.out.trans (hb.mono HB.out.size))
      clear hb
      go_wp2_with fail
      go_ret2
      rw [HEA.out, HEB.out]
      exact ⟨_, rfl, Row.nil _ _ _ _ _ (Nat.zero_le _) (fun _ => rfl), HB2.out.trans (((Below.refl _ _).alloc (Nat.le_refl _) _).mono HB2.out.size)⟩
    · have HZ := hidH h
      cases h2 : polyOk (c :: zs)
      · have HEA := hidH (show sumA zs c = [] by rw [sumA, h, resL, h2]; rfl)
        have HEB := hidH (show sumB zs c = false by rw [sumB, h, h2]; rfl)
        have HZ2 := hidH h2
        clear h h2
        go_wp2_with fail
        refine (sPolyValid_gives _ zs _ _ _ HV1.out).mono ?_; rintro e w2 ⟨rfl, hb⟩
        rw [HZ.out]
        have HB2 := hidH (HB.out.trans (hb.mono HB.out.size))
        have HR2 := hidH (HRW.out.below hb)
        clear hb
        go_wp2_with fail
        refine (sPolyValid_gives _ (c :: zs) _ _ _ HR2.out.lies).mono ?_; rintro e w3 ⟨rfl, hb⟩
        rw [HZ2.out]
        have HB3 := hidH (HB2.out.trans (hb.mono HB2.out.size))
        clear hb
        go_wp2_with fail
        go_ret2
        rw [HEA.out, HEB.out]
        exact ⟨_, rfl, Row.nil _ _ _ _ _ (Nat.zero_le _) (fun _ => rfl), HB3.out.trans (((Below.refl _ _).alloc (Nat.le_refl _) _).mono HB3.out.size)⟩
      · have HEA := hidH (show sumA zs c = c :: zs by rw [sumA, h, resL, h2]; rfl)
        have HEB := hidH (show sumB zs c = true by rw [sumB, h, h2]; rfl)
        have HZ2 := hidH h2
        clear h h2
        go_wp2_with fail
        refine (sPolyValid_gives _ zs _ _ _ HV1.out).mono ?_; rintro e w2 ⟨rfl, hb⟩
        rw [HZ.out]
        have HB2 := hidH (HB.out.trans (hb.mono HB.out.size))
        have hq1 := hb.size
        have HR2 := hidH (HRW.out.below hb)
        clear hb
        go_wp2_with fail
        refine (sPolyValid_gives _ (c :: zs) _ _ _ HR2.out.lies).mono ?_; rintro e w3 ⟨rfl, hb⟩
        rw [HZ2.out]
        have HB3 := hidH (HB2.out.trans (hb.mono HB2.out.size))
        have hq2 := hb.size
        have HR3 := hidH (HR2.out.below hb)
        clear hb
        go_wp2_with fail
        go_ret2
        rw [HEA.out, HEB.out]
        exact ⟨_, rfl, HR3.out.mono (Nat.le_refl _) (by omega), HB3.out⟩
end Go.Proofs.Ytnbggjdmpgjkgaa
