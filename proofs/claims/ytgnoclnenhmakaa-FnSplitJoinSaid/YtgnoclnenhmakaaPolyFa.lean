/-
  Differences of a list and its first differences: the model. Condition: slices of at most 1048576 numbers.
  Values of a polynomial one after the other and its differences at an argument: the program. Condition: valid polynomials and arguments between -300 and 300.
  ShiftPoly, StepPoly and TurnPoly: the program and the model, at every argument. No conditions but that slices fit in memory.
-/
import Derived.Test.YtgnoclnenhmakaaPolyI
import Derived.Test.YtgnoclnenhmakaaSl
import Derived.Laws.AppendOwn
import Derived.StillTactics
import Derived.OwnWalk
import Derived.Laws.Pointers
import Derived.Deep.RegionHeld3
import Derived.Deep.AppendLies
namespace Go.Proofs.Ytgnoclnenhmakaa
set_option maxRecDepth 4000
open Go.RowKit
theorem wrap_64 (x : Int) : IntKind.i64.wrap x = wrap64 x := by rw [IntKind.wrap_i64]; unfold wrap64; omega
theorem ints_snoc (L : List Int) (k : Nat) (x : Int) (h : L[k]? = some x) : ints (L.take k) ++ [Value.int .i64 x] = ints (L.take (k + 1)) := by
  rw [List.take_add_one, h, ints_append]; rfl
theorem sNext_any (v : Value) (zs : List Int) (w : World) (lo hi : Nat) (hv : Lies w lo hi v zs) (hn : zs.length ≤ 1048576) : Calls Try.prog 105 #[v] w (NewRow (difW zs) w) := by
  obtain ⟨a, cap, rfl, hlc, hcm, hnil, hcell⟩ := hv
  unfold maxLen at hcm
  obtain ⟨i0, hi0, hz0, hz1, hz2⟩ := info_parts infoInt
  have HC := hidH hcell
  have HO := hidH (World.ownsRow_made (base := w.heap.size) (e := 3) (size := 1) w #[] 0 (Nat.le_refl _) (Nat.zero_le _) rfl)
  clear hcell hnil
  go_enter Try.func105, Try.ntmps105
  go_wp2_with fail
  go_loopw [3, 4] (fun o i wr => ∃ (k : Nat) (ov : Value), k ≤ zs.length - 1 ∧ i = .int .i64 k ∧ ov = o ∧ wr.ownsRow w.heap.size 3 1 ov k (ints ((difW zs).take k)) ∧ Below w.heap.size w wr) (fun _ i _ => zs.length - (intOf i).toNat)
  case atStart => exact ⟨0, _, Nat.zero_le _, rfl, rfl, HO.out, (Below.refl _ _).alloc (Nat.le_refl _) _⟩
  case round =>
    obtain ⟨k, ov, hk, rfl, rfl, hown, hb⟩ := hrel
    have HW := hidH hown
    have HB := hidH hb
    clear hown hb
    by_cases hlt : k + 1 < zs.length
    · obtain ⟨z, hz⟩ := get_lt zs k (by omega)
      obtain ⟨y, hy⟩ := get_lt zs (k + 1) hlt
      obtain ⟨b, off, rfl, _, _, hc⟩ := HC.out k z hz
      obtain ⟨b', off', e, _, _, hc2⟩ := HC.out (k + 1) y hy
      injection e with e; injection e with e1 e2
      subst e1; subst e2
      have hcw : wr.cell? ⟨b, off + k, none⟩ = some (.int .i64 z) := by rw [HB.out.cell (p := ⟨b, off + k, none⟩) (cell_blk _ _ _ hc)]; exact hc
      have hcw2 : wr.cell? ⟨b, off + (k + 1), none⟩ = some (.int .i64 y) := by rw [HB.out.cell (p := ⟨b, off + (k + 1), none⟩) (cell_blk _ _ _ hc2)]; exact hc2
      have HS := hidH (show ints ((difW zs).take k) ++ [Value.int .i64 (IntKind.i64.wrap (y - z))] = ints ((difW zs).take (k + 1)) by rw [wrap_64]; exact ints_snoc (difW zs) k _ (difW_get zs k z y hz hy))
      have hb0 := hc
      clear hz hy hc hc2
      have hbw : b < w.heap.size := cell_blk _ _ _ hb0
      have ag : ov.ownBlock ≠ some b := fun e => by have := (HW.out.lt b e).1; omega
      have hsz := HB.out.size
      have hk0 : (0 : Int) ≤ (k : Int) := Int.natCast_nonneg _
      have hk1 : (k : Int) < (zs.length : Int) := by omega
      have hk2 : (k : Int) + 1 < (zs.length : Int) := by omega
      have hk3 : (0 : Int) ≤ (k : Int) + 1 := by omega
      have hk4 : ((k : Int) + 1).toNat = k + 1 := by omega
      have v1 : IntKind.i64.wrap ((k : Int) + 1) = (k : Int) + 1 := IntWalk.i64_in _ (by omega)
      clear hb0
      go_wp2_with fail
      go_region_held3 (fun w' => w'.cell? ⟨b, off + k, none⟩ = some (.int .i64 z) ∧ w'.cell? ⟨b, off + (k + 1), none⟩ = some (.int .i64 y))
        (first
          | go_keep
          | (go_split_ands
             refine ⟨?_, ?_⟩
             · (rw [hgrow.cell_far _ (by simp; omega) (Ne.symm ag)]; assumption)
             · (rw [hgrow.cell_far _ (by simp; omega) (Ne.symm ag)]; assumption)))
        ((refine step_append_lies _ (by rfl) _ _ _ (by rfl) w.heap.size 3 i0 _ 1 8 Try.underlying28 hi0 hz0 hz1 hz2 rfl (by omega) ov k _ (by rfl) ((HW.out.alloc _).drew)
            ⟨wr.heap.size, 0, none⟩ 1 1 [.int .i64 (IntKind.i64.wrap (y - z))] (by rfl) (by rfl) (World.news_of_block (cs := #[.int .i64 (IntKind.i64.wrap (y - z))]) (t := 3) (fr := (0, 0)) (heap_alloc_new wr _)) (by simp [Value.oneCell'])
            (by omega) (by unfold maxLen; omega) (by omega) (by simp; omega) (wr.heap.size + 1) (by simp) ?_; intro gg cap w1 hown1 hgrow hat hlt1))
      have HR := hidH hown1
      have HG := hidH hgrow
      clear hown1 hgrow hat
      go_wp2
      go_roundw
      case rel =>
        refine ⟨k + 1, _, by omega, by go_num, rfl, ?_, ?_⟩
        · have h := HR.out
          rw [HS.out] at h
          exact h
        · exact (HB.out.alloc hsz _).drew.grown HG.out (by simp; omega) fun g hg => (HW.out.lt g hg).1
      case measure => simp [intOf]; omega
    · go_wp2
      go_ret
      have h := HW.out
      obtain rfl | hk1 : k = zs.length - 1 ∨ k < zs.length - 1 := by omega
      · rw [List.take_of_length_le (by rw [difW_length]; exact Nat.le_refl _)] at h
        exact ⟨ov, rfl, (row_of_owns h).1, HB.out⟩
      · omega
theorem sDiffs_any (v : Value) (zs : List Int) (w : World) (lo hi : Nat) (hv : Lies w lo hi v zs) (hn : zs.length ≤ 1048576) : Calls Try.prog 107 #[v] w (NewRow (leadW zs.length zs) w) := by
  obtain ⟨i0, hi0, hz0, hz1, hz2⟩ := info_parts infoInt
  have HV := hidH hv.top
  have HO := hidH (World.ownsRow_made (base := w.heap.size) (e := 3) (size := 1) w #[] 0 (Nat.le_refl _) (Nat.zero_le _) rfl)
  clear hv
  go_enter Try.func107, Try.ntmps107
  go_wp2_with fail
  go_loopw [0, 3] (fun vs o wr => ∃ (k : Nat) (cv ov : Value) (l h : Nat), k ≤ zs.length ∧ cv = vs ∧ ov = o ∧ wr.ownsRow w.heap.size 3 1 ov k (ints ((leadW zs.length zs).take k)) ∧ Lies wr l h cv (difN k zs) ∧ (∀ g, ov.ownBlock = some g → g < l ∨ h ≤ g) ∧ Below w.heap.size w wr) (fun vs _ _ => lenOf vs)
  case atStart => exact ⟨0, v, _, 0, w.heap.size, Nat.zero_le _, rfl, rfl, HO.out, HV.out.below ((Below.refl _ _).alloc (Nat.le_refl _) _), fun g hg => .inr (HO.out.lt g hg).1, (Below.refl _ _).alloc (Nat.le_refl _) _⟩
  case round =>
    obtain ⟨k, cv, ov, l, h, hk, rfl, rfl, hown, hl, hd, hb⟩ := hrel
    have HW := hidH hown
    have HL := hidH hl
    have HD := hidH hd
    have HB := hidH hb
    clear hown hd hb
    have HLEN := hidH (difN_length k zs)
    have hsz := HB.out.size
    by_cases hlt : k < zs.length
    · obtain ⟨b, off, cap, rfl, hlc, hcm, hl1, hh1, hbw, hcell⟩ := hl.addr (by rw [HLEN.out]; omega)
      have HX := hidH (show lenOf (.slice (some ⟨b, off, none⟩) (difN k zs).length cap) = (difN k zs).length from rfl)
      obtain ⟨z, hz⟩ := get_lt (difN k zs) 0 (by rw [HLEN.out]; omega)
      have hc := hcell 0 z hz
      have hpos : 0 < (difN k zs).length := by rw [HLEN.out]; omega
      rw [Nat.add_zero] at hc
      have HS := hidH (ints_snoc (leadW zs.length zs) k z (by rw [leadW_get _ _ _ hlt, List.headD_eq_head?_getD, List.head?_eq_getElem?, hz]; rfl))
      clear hcell hz
      unfold maxLen at hcm
      go_wp2_with (at_builtin; refine wpList_append_own _ rfl _ _ 28 rfl w.heap.size 3 i0 (.int .i64 0) 1 8 Try.underlying28 hi0 hz0 hz1 hz2 rfl (by decide) _ _ _ rfl (HW.out.alloc _) ⟨wr.heap.size, 0, none⟩ 1 1 [.int .i64 z] rfl rfl (news_one wr z _) (one_one z) (by unfold maxLen; omega) (by omega) (by simp; omega) ?_)
      intro v' w1 hown1 hgrow _
      have HR := hidH hown1
      have HG := hidH hgrow
      clear hown1 hgrow
      have hB1 : Below w.heap.size wr w1 := ((Below.refl _ wr).alloc hsz _).grown HG.out (by simp; omega) fun g hg => (HW.out.lt g hg).1
      have hL1 : Lies w1 l h (.slice (some ⟨b, off, none⟩) (difN k zs).length cap) (difN k zs) := (HL.out.below ((Below.refl _ wr).alloc (Nat.le_refl _) _)).grown HG.out HD.out
      have HB1 := hidH hB1
      have HL1 := hidH hL1
      clear hB1 hL1 hl hc
      have hlen : (difN k zs).length ≤ 1048576 := by rw [HLEN.out]; omega
      go_wp2_with fail
      refine (sNext_any _ (difN k zs) w1 l h HL1.out hlen).mono ?_; rintro e w2 ⟨v2, rfl, hr2, hb2⟩
      have HR2 := hidH hr2
      have HB2 := hidH hb2
      clear hr2 hb2
      go_wp2_with fail
      go_roundw
      case rel =>
        refine ⟨k + 1, v2, v', w1.heap.size, w2.heap.size, by omega, rfl, rfl, ?_, ?_, ?_, ?_⟩
        · have h := HR.out
          rw [HS.out] at h
          exact owns_below h HB2.out
        · rw [difN_snoc]; exact HR2.out.lies
        · intro g hg; exact .inl (HR.out.lt g hg).2
        · exact (HB.out.trans HB1.out).trans (HB2.out.mono (by have := HB1.out.size; omega))
      case measure =>
        rw [HR2.out.lies.lenOf, difW_length]
        show _ < (difN k zs).length
        omega
    · obtain ⟨a, cap, rfl, _⟩ := hl
      have hz : (difN k zs).length = 0 := by rw [HLEN.out]; omega
      obtain rfl : k = zs.length := by omega
      go_wp2_with fail
      go_ret
      have h := HW.out
      rw [List.take_of_length_le (by rw [leadW_length]; exact Nat.le_refl _)] at h
      exact ⟨ov, rfl, (row_of_owns h).1, HB.out⟩
theorem sResult_any (v : Value) (zs : List Int) (w : World) (lo hi : Nat) (hv : Lies w lo hi v zs) (hn : zs.length ≤ 1048576) : Calls Try.prog 102 #[v] w (NewRowB (resL (leadW zs.length zs)) (polyOk (leadW zs.length zs)) w) := by
  have HV := hidH hv
  clear hv
  cases h : polyOk (leadW zs.length zs)
  · have HZ := hidH h
    have HE := hidH (show resL (leadW zs.length zs) = [] by rw [resL, h]; rfl)
    clear h
    go_enter Try.func102, Try.ntmps102
    go_wp2_with fail
    refine (sDiffs_any v zs _ _ _ HV.out hn).mono ?_; rintro e w1 ⟨v1, rfl, hr, hb⟩
    have HR := hidH hr
    have HB := hidH hb
    clear hr hb
    go_wp2_with fail
    refine (sPolyValid_any v1 _ _ _ _ HR.out.lies).mono ?_; rintro e w2 ⟨rfl, rfl⟩
    rw [HZ.out]
    go_wp2_with fail
    go_ret2
    rw [HE.out]
    exact ⟨_, rfl, Row.nil _ _ _ _ _ (Nat.zero_le _) (fun _ => rfl), HB.out.trans (((Below.refl _ _).alloc (Nat.le_refl _) _).mono HB.out.size)⟩
  · have HZ := hidH h
    have HE := hidH (show resL (leadW zs.length zs) = leadW zs.length zs by rw [resL, h]; rfl)
    clear h
    go_enter Try.func102, Try.ntmps102
    go_wp2_with fail
    refine (sDiffs_any v zs _ _ _ HV.out hn).mono ?_; rintro e w1 ⟨v1, rfl, hr, hb⟩
    have HR := hidH hr
    have HB := hidH hb
    clear hr hb
    go_wp2_with fail
    refine (sPolyValid_any v1 _ _ _ _ HR.out.lies).mono ?_; rintro e w2 ⟨rfl, rfl⟩
    rw [HZ.out]
    go_wp2_with fail
    go_ret2
    rw [HE.out]
    exact ⟨_, rfl, HR.out, HB.out⟩
/-- Values at arguments that go on by steps. -/
def valsS (p : List Int) (f s : Int) (n : Nat) : List Int := (List.range n).map fun (i : Nat) => evP p (f + s * i)
theorem valsS_length (p : List Int) (f s : Int) (n : Nat) : (valsS p f s n).length = n := by simp [valsS]
theorem valsS_get (p : List Int) (f s : Int) (n i : Nat) (h : i < n) : (valsS p f s n)[i]? = some (evP p (f + s * i)) := by simp [valsS, h]
theorem valsS_one (p : List Int) (n : Int) (m : Nat) : valsS p n 1 m = vals p n m := by
  unfold valsS vals
  exact List.map_congr_left fun i _ => by rw [Int.one_mul]
theorem sValues_any (v : Value) (zs : List Int) (f s : Int) (n : Nat) (w : World) (lo hi : Nat) (hv : Lies w lo hi v zs) (hs : Small zs) (hn : n ≤ 1048576) (hf : -200 ≤ f ∧ f ≤ 200) (hb : ∀ i : Nat, i < n → -300 ≤ f + s * i ∧ f + s * i ≤ 300) : Calls Try.prog 64 #[v, .int .i64 f, .int .i64 s, .int .i64 n] w (NewRow (valsS zs f s n) w) := by
  obtain ⟨i0, hi0, hz0, hz1, hz2⟩ := info_parts infoInt
  have HV := hidH hv
  have HS := hidH hs
  have HBD := hidH hb
  have HO := hidH (World.ownsRow_made (base := w.heap.size) (e := 3) (size := 1) w #[] 0 (Nat.le_refl _) (Nat.zero_le _) rfl)
  clear hv hs hb
  go_enter Try.func64, Try.ntmps64
  go_wp2_with fail
  go_loopw [9, 10] (fun o i wr => ∃ (k : Nat) (ov : Value), k ≤ n ∧ i = .int .i64 k ∧ ov = o ∧ wr.ownsRow w.heap.size 3 1 ov k (ints ((valsS zs f s n).take k)) ∧ Below w.heap.size w wr) (fun _ i _ => n - (intOf i).toNat)
  case atStart => exact ⟨0, _, Nat.zero_le _, rfl, rfl, HO.out, (Below.refl _ _).alloc (Nat.le_refl _) _⟩
  case round =>
    obtain ⟨k, ov, hk, rfl, rfl, hown, hb⟩ := hrel
    have HW := hidH hown
    have HB := hidH hb
    clear hown hb
    have hsz := HB.out.size
    by_cases hlt : k < n
    · have ⟨b1, b2⟩ := HBD.out k hlt
      have b3 : -500 ≤ s * (k : Int) ∧ s * (k : Int) ≤ 500 := by omega
      have HX := hidH (ints_snoc _ k _ (valsS_get zs f s n k hlt))
      go_wp2_with fail
      refine (sEvalL_any v zs (f + s * (k : Int)) b1 b2 HS.out _ lo hi (HV.out.below HB.out)).mono ?_; rintro e w2 ⟨rfl, q, rfl⟩
      generalize evP zs (f + s * (k : Int)) = z at *
      go_wp2_with (at_builtin; refine wpList_append_own _ rfl _ _ 28 rfl w.heap.size 3 i0 (.int .i64 0) 1 8 Try.underlying28 hi0 hz0 hz1 hz2 rfl (by decide) _ _ _ rfl (owns_below HW.out (below_drewN ((Below.refl _ wr).alloc (Nat.le_refl _) _) q)) ⟨wr.heap.size, 0, none⟩ 1 1 [.int .i64 z] rfl rfl (news_one wr z _) (one_one z) (by unfold maxLen; omega) (by omega) (by simp; omega) ?_)
      intro v' w1 hown1 hgrow _
      have HR := hidH hown1
      have HG := hidH hgrow
      clear hown1 hgrow
      go_wp2_with fail
      go_roundw
      case rel =>
        refine ⟨k + 1, v', by omega, by go_num, rfl, ?_, ?_⟩
        · have h := HR.out
          rw [HX.out] at h
          exact h
        · exact (below_drewN (HB.out.alloc hsz _) q).grown HG.out (by simp; omega) fun g hg => (HW.out.lt g hg).1
      case measure => simp [intOf]; omega
    · go_wp2_with fail
      go_ret
      obtain rfl : k = n := by omega
      have h := HW.out
      rw [List.take_of_length_le (by rw [valsS_length]; exact Nat.le_refl _)] at h
      exact ⟨ov, rfl, (row_of_owns h).1, HB.out⟩
end Go.Proofs.Ytgnoclnenhmakaa
namespace Go.Proofs.Ytgnoclnenhmakaa
set_option maxRecDepth 4000
open Go.RowKit
theorem diffsAt_any (v : Value) (zs : List Int) (n : Int) (w : World) (lo hi : Nat) (hv : Lies w lo hi v zs) (h0 : 0 < zs.length) (hs : Small zs) (h1 : -300 ≤ n) (h2 : n ≤ 300) : Calls Try.prog 82 #[v, .int .i64 n] w (NewRow (shiftL zs n zs.length) w) := by
  obtain ⟨b, off, cap, rfl, hlc, hcm, hl1, hh1, hbw, hcell⟩ := hv.addr h0
  have h7 := hs.1
  have HS := hidH hs
  have HLD := hidH fun (k : Nat) (hk : k < zs.length) => lies_drop (w := w) (lo := lo) (hi := hi) (b := b) (off := off) (cap := cap) (zs := zs) k (zs.length - k) (cap - k) rfl rfl hlc hcm hl1 hh1 hcell
  have HLL := hidH (shiftL_length zs n zs.length)
  have HM := hidH (Blk.made w 3 zs.length)
  unfold maxLen at hcm
  have hmk := run_make_row' (P := Try.prog) 28 3 (.int .i64 0) 8 Try.underlying28 infoInt rfl .i64 .i64 zs.length (by omega) (by omega) w
  clear hcell hv hs
  go_enter Try.func82, Try.ntmps82
  go_wp2_with fail
  go_loopw [12] (fun i wr => ∃ k : Nat, k ≤ zs.length ∧ i = .int .i64 k ∧ Blk wr w.heap.size (fill (shiftL zs n zs.length) k) ∧ Below w.heap.size w wr) (fun i _ => zs.length - (intOf i).toNat)
  case atStart => exact ⟨0, Nat.zero_le _, rfl, by have := HM.out; rw [fill_zero, HLL.out]; exact this, (Below.refl _ _).alloc (Nat.le_refl _) _⟩
  case round =>
    obtain ⟨k, hk, rfl, hblk, hb⟩ := hrel
    have HBK := hidH hblk
    have HB := hidH hb
    clear hblk hb
    by_cases hlt : k < zs.length
    · have hkc : k ≤ cap := by omega
      have hkn : ¬ k = cap := by omega
      obtain ⟨ho, hf⟩ := HBK.out.2 k 0 (fill_at _ _ (by rw [HLL.out]; exact hlt))
      have HG := hidH (fill_set _ k _ (shiftL_get zs n zs.length k hlt))
      go_wp2_with fail
      refine (valueAt_any _ (zs.drop k) n h1 h2 (HS.out.drop k) wr lo hi ((HLD.out k hlt).below HB.out)).mono ?_; rintro e w2 ⟨rfl, q, rfl⟩
      have HST := hidH ((HBK.out.drewN q).set k (evP (zs.drop k) n))
      go_wp2_with fail
      go_roundw
      case rel => exact ⟨k + 1, by omega, by go_num, by rw [← HG.out]; exact HST.out, (below_drewN HB.out q).setCell (Nat.le_refl _) _⟩
      case measure => simp [intOf]; omega
    · obtain rfl : k = zs.length := by omega
      go_wp2_with fail
      go_ret
      have h := HBK.out
      have e := fill_all (shiftL zs n zs.length)
      rw [HLL.out] at e
      rw [e] at h
      exact ⟨_, rfl, h.row (Nat.le_refl _) h.1 (by rw [HLL.out]; exact Nat.le_refl _) (by unfold maxLen; omega) HLL.out.symm, HB.out⟩
theorem shift_step (zs : List Int) (n : Int) (k : Nat) : evP (zs.drop k) n + evP (zs.drop (k + 1)) n = evP (zs.drop k) (n + 1) := by
  rw [evP_step, List.tail_drop]
/-- A call that moves a row of differences on to the next argument. -/
def Up (b : Nat) (L : List Int) (w : World) (e : Ending) (w' : World) : Prop := e = .returned (.tuple #[]) ∧ Blk w' b L ∧ Onto b w w'
theorem addUp_any (b cap : Nat) (zs : List Int) (n : Int) (w : World) (hB : Blk w b (shiftL zs n zs.length)) (h0 : 0 < zs.length) (hs : Small zs) (h1 : -300 ≤ n) (h2 : n + 1 ≤ 300) (hc : zs.length ≤ cap) (hcm : cap ≤ 9223372036854775807) : Calls Try.prog 96 #[.slice (some ⟨b, 0, none⟩) zs.length cap] w (Up b (shiftL zs (n + 1) zs.length) w) := by
  have h7 := hs.1
  have HS := hidH hs
  have HB0 := hidH hB
  have HLL := hidH (show (shiftL zs (n + 1) zs.length).length = (shiftL zs n zs.length).length by rw [shiftL_length, shiftL_length])
  have HL2 := hidH (shiftL_length zs n zs.length)
  clear hB hs
  go_enter Try.func96, Try.ntmps96
  go_wp2_with fail
  go_loopw [6] (fun i wr => ∃ k : Nat, k ≤ zs.length - 1 ∧ i = .int .i64 k ∧ Blk wr b (over (shiftL zs (n + 1) zs.length) (shiftL zs n zs.length) k) ∧ Onto b w wr) (fun i _ => zs.length - (intOf i).toNat)
  case atStart => exact ⟨0, Nat.zero_le _, rfl, by rw [over_zero]; exact HB0.out, Onto.refl _ _⟩
  case round =>
    obtain ⟨k, hk, rfl, hblk, ho⟩ := hrel
    have HBK := hidH hblk
    have HO := hidH ho
    clear hblk ho
    by_cases hlt : k + 1 < zs.length
    · obtain ⟨hc1, hf1⟩ := HBK.out.2 k _ (by rw [over_get _ _ _ HLL.out (by rw [HL2.out]; omega)]; exact shiftL_get zs n zs.length k (by omega))
      obtain ⟨hc2, _⟩ := HBK.out.2 (k + 1) (evP (zs.drop (k + 1)) n) (by
        have e : (over (shiftL zs (n + 1) zs.length) (shiftL zs n zs.length) k)[k + 1]? = (shiftL zs n zs.length)[k + 1]? := by
          unfold over
          rw [List.getElem?_append_right (by rw [List.length_take]; omega), List.length_take, Nat.min_eq_left (by rw [shiftL_length]; omega), List.getElem?_drop]
          congr 1
          omega
        rw [e]; exact shiftL_get zs n zs.length (k + 1) hlt)
      have ⟨b1, b2⟩ := (HS.out.drop k).bd n h1 (by omega)
      have ⟨b3, b4⟩ := (HS.out.drop (k + 1)).bd n h1 (by omega)
      have HSS := hidH (shift_step zs n k)
      have HG := hidH (over_set _ _ k _ HLL.out (shiftL_get zs (n + 1) zs.length k (by omega)))
      go_wp2_with fail
      go_region
      go_wp2_with fail
      go_roundw
      case rel => exact ⟨k + 1, by omega, by go_num, by rw [← HG.out, ← HSS.out]; exact (HBK.out.set k _).drewN 1, HO.out.trans ((Onto.setCell b k wr _).drewN 1)⟩
      case measure => simp [intOf]; omega
    · go_wp2_with fail
      go_end0
      refine ⟨rfl, ?_, HO.out⟩
      have h := HBK.out
      have e : over (shiftL zs (n + 1) zs.length) (shiftL zs n zs.length) k = shiftL zs (n + 1) zs.length := by
        refine list_ext (by unfold over; simp [shiftL_length]; omega) fun j x y hx hy => ?_
        have hj : j < zs.length := by have := (List.getElem?_eq_some_iff.1 hy).1; rwa [shiftL_length] at this
        unfold over at hx
        by_cases hjk : j < k
        · rw [List.getElem?_append_left (by rw [List.length_take, shiftL_length]; omega), List.getElem?_take, if_pos hjk] at hx
          rw [hx] at hy; injection hy
        · obtain rfl : j = k := by omega
          rw [List.getElem?_append_right (by rw [List.length_take]; omega), List.length_take, Nat.min_eq_left (by rw [shiftL_length]; omega), Nat.sub_self, List.getElem?_drop, Nat.add_zero, shiftL_get _ _ _ _ hj] at hx
          rw [shiftL_get _ _ _ _ hj] at hy
          injection hx with hx
          injection hy with hy
          rw [← hx, ← hy, ← shift_step, List.drop_eq_nil_of_le (show zs.length ≤ j + 1 by omega)]
          simp [evP, ev]
      rw [e] at h
      exact h
end Go.Proofs.Ytgnoclnenhmakaa
namespace Go.Proofs.Ytgnoclnenhmakaa
set_option maxRecDepth 4000
open Go.RowKit
/-- What ShiftPoly answers. -/
def shiftA (zs : List Int) (n : Int) : List Int := if polyOk zs && inB 200 n then resL (shiftL zs n zs.length) else []
def shiftB (zs : List Int) (n : Int) : Bool := polyOk zs && inB 200 n && polyOk (shiftL zs n zs.length)
def stepOk (m : Int) : Bool := decide (1 ≤ m ∧ m ≤ 10)
/-- What StepPoly answers. -/
def everyL (zs : List Int) (s : Int) : List Int := leadW zs.length (valsS zs 0 s zs.length)
def stepA (zs : List Int) (m : Int) : List Int := if polyOk zs && stepOk m then resL (everyL zs m) else []
def stepB (zs : List Int) (m : Int) : Bool := polyOk zs && stepOk m && polyOk (everyL zs m)
/-- What TurnPoly answers. -/
def turnA (zs : List Int) : List Int := if polyOk zs then resL (everyL zs (-1)) else []
def turnB (zs : List Int) : Bool := polyOk zs && polyOk (everyL zs (-1))
theorem shiftA_len (zs : List Int) (n : Int) : (shiftA zs n).length ≤ 1048576 := by unfold shiftA; split <;> first | exact resL_len _ | simp
theorem stepA_len (zs : List Int) (n : Int) : (stepA zs n).length ≤ 1048576 := by unfold stepA; split <;> first | exact resL_len _ | simp
theorem turnA_len (zs : List Int) : (turnA zs).length ≤ 1048576 := by unfold turnA; split <;> first | exact resL_len _ | simp
theorem lead_shift (zs : List Int) (hs : Small zs) (n : Int) (h1 : -200 ≤ n) (h2 : n ≤ 200) : leadW zs.length (valsS zs n 1 zs.length) = shiftL zs n zs.length := by
  rw [valsS_one, lead_vals zs hs n zs.length (by omega) (by have := hs.1; omega)]
theorem inB_2 (n : Int) (h : inB 200 n = true) : -200 ≤ n ∧ n ≤ 200 := of_decide_eq_true h
theorem shift_no (v0 : Value) (zs0 : List Int) (n1 : Int) (w : World) (lo0 hi0 : Nat) (hv0 : Lies w lo0 hi0 v0 zs0) (h : (polyOk zs0 && inB 200 n1) = false) : Calls Try.prog 51 #[v0, .int .i64 n1] w (NewRowB [] false w) := by
  have HV0_0 := hidH hv0
  clear hv0
  have HB0 := hidH (Below.refl w.heap.size w)
  cases hc0 : polyOk zs0
  · have HC0 := hidH hc0
    clear h hc0
    go_enter Try.func51, Try.ntmps51
    go_wp2_with fail
    refine (polyValid_any v0 zs0 _ _ _ HV0_0.out).mono ?_; rintro e w1 ⟨rfl, hb⟩
    have HV0_1 := hidH (HV0_0.out.below hb)
    clear HV0_0
    have HB1 := hidH (HB0.out.trans (hb.mono HB0.out.size))
    clear hb HB0
    rw [HC0.out]
    go_wp2_with fail
    go_ret2
    exact ⟨_, rfl, Row.nil _ _ _ _ _ (Nat.zero_le _) (fun _ => rfl), HB1.out⟩
  · rw [hc0, Bool.true_and] at h
    have HC0 := hidH hc0
    clear hc0
    · have HC1 := hidH h
      clear h
      go_enter Try.func51, Try.ntmps51
      go_wp2_with fail
      refine (polyValid_any v0 zs0 _ _ _ HV0_0.out).mono ?_; rintro e w1 ⟨rfl, hb⟩
      have HV0_1 := hidH (HV0_0.out.below hb)
      clear HV0_0
      have HB1 := hidH (HB0.out.trans (hb.mono HB0.out.size))
      clear hb HB0
      rw [HC0.out]
      go_wp2_with fail
      refine (within_any n1 200 (by omega) (by omega) _).mono ?_; rintro e w_ ⟨rfl, rfl⟩
      rw [HC1.out]
      go_wp2_with fail
      go_ret2
      exact ⟨_, rfl, Row.nil _ _ _ _ _ (Nat.zero_le _) (fun _ => rfl), HB1.out⟩
set_option maxHeartbeats 800000 in
theorem shift_yes (v0 : Value) (zs0 : List Int) (n1 : Int) (w : World) (lo0 hi0 : Nat) (hv0 : Lies w lo0 hi0 v0 zs0) (hc0 : (polyOk zs0) = true) (hc1 : (inB 200 n1) = true) : Calls Try.prog 51 #[v0, .int .i64 n1] w (NewRowB (resL (shiftL zs0 n1 zs0.length)) (polyOk (shiftL zs0 n1 zs0.length)) w) := by
  have HV0_0 := hidH hv0
  clear hv0
  have HB0 := hidH (Below.refl w.heap.size w)
  have HC0 := hidH hc0
  have HC1 := hidH hc1
  have ⟨h1, hs⟩ := polyOk_small _ HC0.out
  have h7 := hs.1
  have HS := hidH hs
  clear hs
  have ⟨ha, hb⟩ := inB_2 _ HC1.out
  clear hc0 hc1
  go_enter Try.func51, Try.ntmps51
  go_wp2_with fail
  refine (polyValid_any v0 zs0 _ _ _ HV0_0.out).mono ?_; rintro e w1 ⟨rfl, hb⟩
  have HV0_1 := hidH (HV0_0.out.below hb)
  clear HV0_0
  have HB1 := hidH (HB0.out.trans (hb.mono HB0.out.size))
  clear hb HB0
  rw [HC0.out]
  go_wp2_with fail
  refine (within_any n1 200 (by omega) (by omega) _).mono ?_; rintro e w_ ⟨rfl, rfl⟩
  rw [HC1.out]
  go_wp2_with fail
  refine (diffsAt_any v0 zs0 n1 _ _ _ HV0_1.out (by omega) HS.out (by omega) (by omega)).mono ?_; rintro e wa ⟨va, rfl, hr, hb⟩
  have HR := hidH hr
  have HBa := hidH (HB1.out.trans (hb.mono HB1.out.size))
  have hsz := HB1.out.size
  clear hr hb
  go_wp2_with fail
  refine (ifPoly_any va _ _ _ HR.out).mono ?_; rintro e wb ⟨vb, rfl, hr, hb⟩
  have HR2 := hidH hr
  have HBb := hidH (HBa.out.trans (hb.mono HBa.out.size))
  clear hr hb
  generalize polyOk (shiftL zs0 n1 zs0.length) = r at *
  go_wp2_with fail
  go_ret2
  exact ⟨_, rfl, HR2.out.mono hsz (Nat.le_refl _), HBb.out⟩
theorem shift_any (v0 : Value) (zs0 : List Int) (n1 : Int) (w : World) (lo0 hi0 : Nat) (hv0 : Lies w lo0 hi0 v0 zs0) : Calls Try.prog 51 #[v0, .int .i64 n1] w (NewRowB (shiftA zs0 n1) (shiftB zs0 n1) w) := by
  unfold shiftA shiftB
  cases h : (polyOk zs0 && inB 200 n1)
  · exact shift_no v0 zs0 n1 w lo0 hi0 hv0 h
  · have h' := h
    try simp only [Bool.and_eq_true] at h'
    exact shift_yes v0 zs0 n1 w lo0 hi0 hv0 h'.1 h'.2
theorem sShift_no (v0 : Value) (zs0 : List Int) (n1 : Int) (w : World) (lo0 hi0 : Nat) (hv0 : Lies w lo0 hi0 v0 zs0) (h : (polyOk zs0 && inB 200 n1) = false) : Calls Try.prog 85 #[v0, .int .i64 n1] w (NewRowB [] false w) := by
  have HV0_0 := hidH hv0
  clear hv0
  have HB0 := hidH (Below.refl w.heap.size w)
  cases hc0 : polyOk zs0
  · have HC0 := hidH hc0
    clear h hc0
    go_enter Try.func85, Try.ntmps85
    go_wp2_with fail
    refine (sPolyValid_gives v0 zs0 _ _ _ HV0_0.out).mono ?_; rintro e w1 ⟨rfl, hb⟩
    have HV0_1 := hidH (HV0_0.out.below hb)
    clear HV0_0
    have HB1 := hidH (HB0.out.trans (hb.mono HB0.out.size))
    clear hb HB0
    rw [HC0.out]
    go_wp2_with fail
    go_ret2
    exact ⟨_, rfl, Row.nil _ _ _ _ _ (Nat.zero_le _) (fun _ => rfl), HB1.out.trans (((Below.refl _ _).alloc (Nat.le_refl _) _).mono HB1.out.size)⟩
  · rw [hc0, Bool.true_and] at h
    have HC0 := hidH hc0
    clear hc0
    · have HC1 := hidH h
      clear h
      go_enter Try.func85, Try.ntmps85
      go_wp2_with fail
      refine (sPolyValid_gives v0 zs0 _ _ _ HV0_0.out).mono ?_; rintro e w1 ⟨rfl, hb⟩
      have HV0_1 := hidH (HV0_0.out.below hb)
      clear HV0_0
      have HB1 := hidH (HB0.out.trans (hb.mono HB0.out.size))
      clear hb HB0
      rw [HC0.out]
      go_wp2_with fail
      refine (sArg_any n1 (inB 200 n1) rfl _).mono ?_; rintro e w_ ⟨rfl, rfl⟩
      rw [HC1.out]
      go_wp2_with fail
      go_ret2
      exact ⟨_, rfl, Row.nil _ _ _ _ _ (Nat.zero_le _) (fun _ => rfl), HB1.out.trans (((Below.refl _ _).alloc (Nat.le_refl _) _).mono HB1.out.size)⟩
set_option maxHeartbeats 800000 in
theorem sShift_yes (v0 : Value) (zs0 : List Int) (n1 : Int) (w : World) (lo0 hi0 : Nat) (hv0 : Lies w lo0 hi0 v0 zs0) (hc0 : (polyOk zs0) = true) (hc1 : (inB 200 n1) = true) : Calls Try.prog 85 #[v0, .int .i64 n1] w (NewRowB (resL (shiftL zs0 n1 zs0.length)) (polyOk (shiftL zs0 n1 zs0.length)) w) := by
  have HV0_0 := hidH hv0
  clear hv0
  have HB0 := hidH (Below.refl w.heap.size w)
  have HC0 := hidH hc0
  have HC1 := hidH hc1
  have ⟨h1, hs⟩ := polyOk_small _ HC0.out
  have h7 := hs.1
  have HS := hidH hs
  clear hs
  have ⟨ha, hb⟩ := inB_2 _ HC1.out
  clear hc0 hc1
  go_enter Try.func85, Try.ntmps85
  go_wp2_with fail
  refine (sPolyValid_gives v0 zs0 _ _ _ HV0_0.out).mono ?_; rintro e w1 ⟨rfl, hb⟩
  have HV0_1 := hidH (HV0_0.out.below hb)
  clear HV0_0
  have HB1 := hidH (HB0.out.trans (hb.mono HB0.out.size))
  clear hb HB0
  rw [HC0.out]
  go_wp2_with fail
  refine (sArg_any n1 (inB 200 n1) rfl _).mono ?_; rintro e w_ ⟨rfl, rfl⟩
  rw [HC1.out]
  obtain ⟨a0, cap0, rfl, _⟩ := HV0_1.out
  go_wp2_with fail
  refine (sValues_any _ zs0 n1 1 zs0.length _ _ _ HV0_1.out HS.out (by omega) ⟨ha, hb⟩ (by omega)).mono ?_; rintro e wa ⟨va, rfl, hr, hb⟩
  have HR := hidH hr
  have HBa := hidH (HB1.out.trans (hb.mono HB1.out.size))
  have hsz := HB1.out.size
  have hsz2 := hb.size
  clear hr hb
  go_wp2_with fail
  refine (sResult_any va _ _ _ _ HR.out.lies (by rw [valsS_length]; omega)).mono ?_; rintro e wb ⟨vb, rfl, hr, hb⟩
  have HR2 := hidH hr
  have HBb := hidH (HBa.out.trans (hb.mono HBa.out.size))
  clear hr hb
  rw [valsS_length, lead_shift zs0 HS.out n1 ha hb] at HR2
  rw [valsS_length, lead_shift zs0 HS.out n1 ha hb]
  generalize polyOk (shiftL zs0 n1 zs0.length) = r at *
  go_wp2_with fail
  go_ret2
  exact ⟨_, rfl, HR2.out.mono (by omega) (Nat.le_refl _), HBb.out⟩
theorem sShift_any (v0 : Value) (zs0 : List Int) (n1 : Int) (w : World) (lo0 hi0 : Nat) (hv0 : Lies w lo0 hi0 v0 zs0) : Calls Try.prog 85 #[v0, .int .i64 n1] w (NewRowB (shiftA zs0 n1) (shiftB zs0 n1) w) := by
  unfold shiftA shiftB
  cases h : (polyOk zs0 && inB 200 n1)
  · exact sShift_no v0 zs0 n1 w lo0 hi0 hv0 h
  · have h' := h
    try simp only [Bool.and_eq_true] at h'
    exact sShift_yes v0 zs0 n1 w lo0 hi0 hv0 h'.1 h'.2
end Go.Proofs.Ytgnoclnenhmakaa
