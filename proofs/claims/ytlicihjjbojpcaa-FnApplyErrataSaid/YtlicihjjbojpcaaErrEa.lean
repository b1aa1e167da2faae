/-
  Errata: triples of numbers in memory, and ErrataOf: the program, at every argument. No conditions but that slices fit in memory.
-/
import Derived.Test.YtlicihjjbojpcaaErrE
import Derived.Test.YtlicihjjbojpcaaPolyFa
import Derived.Laws.OwnMore
namespace Go.Proofs.Ytlicihjjbojpcaa
set_option maxRecDepth 4000
open Go.RowKit
/-- The slice v holds n triples of numbers, which lie one after the other. -/
def Lies3 (w : World) (lo hi : Nat) (v : Value) (n : Nat) (F : List Int) : Prop := F.length = 3 * n ∧ ∃ (a : Option Addr) (cap : Nat), v = .slice a n cap ∧ n ≤ cap ∧ cap ≤ maxLen ∧ (a = none → cap = 0) ∧ Lies w lo hi (.slice a F.length F.length) F
/-- .. and can be written. -/
def Row3 (w : World) (lo hi : Nat) (v : Value) (n : Nat) (F : List Int) : Prop := F.length = 3 * n ∧ ∃ (a : Option Addr) (cap : Nat), v = .slice a n cap ∧ n ≤ cap ∧ cap ≤ maxLen ∧ (a = none → cap = 0) ∧ Row w lo hi (.slice a F.length F.length) F
theorem Row3.lies {w : World} {lo hi n : Nat} {v : Value} {F : List Int} (h : Row3 w lo hi v n F) : Lies3 w lo hi v n F := by
  obtain ⟨h0, a, cap, h1, h2, h3, h4, h5⟩ := h
  exact ⟨h0, a, cap, h1, h2, h3, h4, h5.lies⟩
theorem Lies3.below {w w' : World} {lo hi n : Nat} {v : Value} {F : List Int} (h : Lies3 w lo hi v n F) (hb : Below w.heap.size w w') : Lies3 w' lo hi v n F := by
  obtain ⟨h0, a, cap, h1, h2, h3, h4, h5⟩ := h
  exact ⟨h0, a, cap, h1, h2, h3, h4, h5.below hb⟩
theorem Row3.below {w w' : World} {lo hi n : Nat} {v : Value} {F : List Int} (h : Row3 w lo hi v n F) (hb : Below w.heap.size w w') : Row3 w' lo hi v n F := by
  obtain ⟨h0, a, cap, h1, h2, h3, h4, h5⟩ := h
  exact ⟨h0, a, cap, h1, h2, h3, h4, h5.below hb⟩
theorem Row3.apart {w w' : World} {lo hi l h n : Nat} {v : Value} {F : List Int} (H : Row3 w l h v n F) (hA : Apart lo hi w w') (hd : h ≤ lo ∨ hi ≤ l) : Row3 w' l h v n F := by
  obtain ⟨h0, a, cap, h1, h2, h3, h4, h5⟩ := H
  exact ⟨h0, a, cap, h1, h2, h3, h4, h5.apart hA hd⟩
theorem Row3.mono {w : World} {l h l' h' n : Nat} {v : Value} {F : List Int} (H : Row3 w l h v n F) (hl : l' ≤ l) (hh : h ≤ h') : Row3 w l' h' v n F := by
  obtain ⟨h0, a, cap, h1, h2, h3, h4, h5⟩ := H
  exact ⟨h0, a, cap, h1, h2, h3, h4, h5.mono hl hh⟩
theorem Row3.nil (w : World) (lo hi : Nat) (a : Option Addr) (cap : Nat) (hc : cap ≤ maxLen) (ha : a = none → cap = 0) : Row3 w lo hi (.slice a 0 cap) 0 [] :=
  ⟨rfl, a, cap, rfl, Nat.zero_le _, hc, ha, Row.nil _ _ _ _ _ (Nat.zero_le _) (fun _ => rfl)⟩
theorem infoErr : (Try.prog.info? 42).map (fun i => (i.zero, i.size, i.bytes)) = some (some (.agg #[.int .i64 0, .int .i64 0, .int .i64 0]), 3, 24) := by kernel_rfl
theorem info3 : ∃ i, Try.prog.info? 42 = some i ∧ i.zero = some (.agg #[.int .i64 0, .int .i64 0, .int .i64 0]) ∧ i.size = 3 ∧ i.bytes = 24 := by
  have h := infoErr
  cases e : Try.prog.info? 42 with
  | none => rw [e] at h; cases h
  | some i =>
    rw [e] at h
    simp at h
    exact ⟨i, rfl, h.1, h.2.1, h.2.2⟩
theorem row3_of_owns {w : World} {lo n : Nat} {v : Value} {F : List Int} (h : w.ownsRow lo 42 3 v n (ints F)) (hn : n ≤ 1000000) : Row3 w lo w.heap.size v n F := by
  have hF : F.length = 3 * n := by have := h.1; rw [ints_length] at this; omega
  refine ⟨hF, ?_⟩
  by_cases h0 : 0 < n
  · obtain ⟨g, cap, rfl, hg1, hg2⟩ := h.form h0
    have hcap : n ≤ cap ∧ cap ≤ maxLen := by
      rcases h.2 with ⟨e, _⟩ | ⟨g', cap', cur, e, _, _, h1, h2, _⟩
      · cases e
      · injection e with _ _ e3
        subst e3
        exact ⟨h1, h2⟩
    refine ⟨_, cap, rfl, hcap.1, hcap.2, (fun e => by cases e), some ⟨g, 0, none⟩, F.length, rfl, Nat.le_refl _, by unfold maxLen; omega, (fun e => by cases e), fun j z hj => ?_⟩
    have hjl := (List.getElem?_eq_some_iff.1 hj).1
    refine ⟨g, rfl, hg1, hg2, ?_, h.frozenAt j⟩
    rw [h.cellAt j (by omega), ints, List.getElem?_map, hj]; rfl
  · obtain rfl : n = 0 := by omega
    obtain rfl : F = [] := List.eq_nil_of_length_eq_zero (by omega)
    rcases h.2 with ⟨rfl, _⟩ | ⟨g, cap, cur, rfl, _, _, h1, h2, _⟩
    · exact ⟨none, 0, rfl, Nat.le_refl _, by unfold maxLen; omega, (fun _ => rfl), Row.nil _ _ _ _ _ (Nat.zero_le _) (fun _ => rfl)⟩
    · exact ⟨_, cap, rfl, h1, h2, (fun e => by cases e), Row.nil _ _ _ _ _ (Nat.zero_le _) (fun e => by cases e)⟩
/-- The errata of the first entries, one after the other, and how many they are. -/
def errF (zs ys : List Int) : Nat → List Int
  | 0 => []
  | k + 1 => errF zs ys k ++ (if ys.getD k 0 = zs.getD k 0 then [] else [(k : Int), ys.getD k 0, zs.getD k 0])
def errN (zs ys : List Int) : Nat → Nat
  | 0 => 0
  | k + 1 => errN zs ys k + (if ys.getD k 0 = zs.getD k 0 then 0 else 1)
theorem errN_le (zs ys : List Int) : ∀ k, errN zs ys k ≤ k := by
  intro k
  induction k with
  | zero => exact Nat.le_refl _
  | succ k ih => rw [errN]; split <;> omega
theorem errF_same (zs ys : List Int) (k : Nat) (h : ys.getD k 0 = zs.getD k 0) : errF zs ys (k + 1) = errF zs ys k ∧ errN zs ys (k + 1) = errN zs ys k := by
  rw [errF, errN, if_pos h, if_pos h]; exact ⟨List.append_nil _, rfl⟩
theorem errF_more (zs ys : List Int) (k : Nat) (h : ys.getD k 0 ≠ zs.getD k 0) : errF zs ys (k + 1) = errF zs ys k ++ [(k : Int), ys.getD k 0, zs.getD k 0] ∧ errN zs ys (k + 1) = errN zs ys k + 1 := by
  rw [errF, errN, if_neg h, if_neg h]; exact ⟨rfl, rfl⟩
/-- What ErrataOf answers. -/
def errataF (zs ys : List Int) : List Int := if tabsOk zs ys then errF zs ys zs.length else []
def errataN (zs ys : List Int) : Nat := if tabsOk zs ys then errN zs ys zs.length else 0
theorem errataN_le (zs ys : List Int) : errataN zs ys ≤ 60 := by
  unfold errataN
  split
  · rename_i h
    unfold tabsOk at h
    rw [Bool.and_eq_true] at h
    have := tableOk_len zs h.1
    have h2 := errN_le zs ys zs.length
    omega
  · omega
/-- A call that answers new errata and a truth. -/
def NewErrB (n : Nat) (F : List Int) (b : Bool) (w : World) (e : Ending) (w' : World) : Prop := ∃ v, e = .returned (.tuple #[v, .bool b]) ∧ Row3 w' w.heap.size w'.heap.size v n F ∧ Below w.heap.size w w'
set_option maxHeartbeats 1600000 in
theorem errataOf_any (v0 : Value) (zs0 : List Int) (v1 : Value) (zs1 : List Int) (w : World) (lo0 hi0 lo1 hi1 : Nat) (hv0 : Lies w lo0 hi0 v0 zs0) (hv1 : Lies w lo1 hi1 v1 zs1) : Calls Try.prog 22 #[v0, v1] w (NewErrB (errataN zs0 zs1) (errataF zs0 zs1) (tabsOk zs0 zs1) w) := by
  have HAR := hidH (areTables_any v0 zs0 v1 zs1 w lo0 hi0 lo1 hi1 hv0 hv1)
  cases ht : tabsOk zs0 zs1
  · have HN := hidH (show errataN zs0 zs1 = 0 by unfold errataN; rw [ht]; rfl)
    have HF := hidH (show errataF zs0 zs1 = [] by unfold errataF; rw [ht]; rfl)
    rw [ht] at HAR
    rw [HN.out, HF.out]
    clear ht hv0 hv1
    go_enter Try.func22, Try.ntmps22
    go_wp2_with fail
    refine HAR.out.mono ?_; rintro e w1 ⟨rfl, hb⟩
    have HB := hidH hb
    clear hb
    go_wp2_with fail
    go_ret2
    exact ⟨_, rfl, Row3.nil _ _ _ _ _ (by unfold maxLen; omega) (fun _ => rfl), HB.out⟩
  · have HN := hidH (show errataN zs0 zs1 = errN zs0 zs1 zs0.length by unfold errataN; rw [ht]; rfl)
    have HF := hidH (show errataF zs0 zs1 = errF zs0 zs1 zs0.length by unfold errataF; rw [ht]; rfl)
    rw [ht] at HAR
    rw [HN.out, HF.out]
    unfold tabsOk at ht
    simp only [Bool.and_eq_true] at ht
    obtain ⟨ht0, ht1, hll⟩ := ht
    have hll := of_decide_eq_true hll
    have ⟨hl1, hl2⟩ := tableOk_len _ ht0
    obtain ⟨b0, off0, cap0, rfl, hlc0, hcm0, _, _, hbb0, hcell0⟩ := hv0.addr (by omega)
    obtain ⟨b1, off1, cap1, rfl, hlc1, hcm1, _, _, hbb1, hcell1⟩ := hv1.addr (by omega)
    obtain ⟨i0, hi0', hz0, hz1, hz2⟩ := info3
    have hi0 := hi0'
    unfold maxLen at hcm0 hcm1
    have HC0 := hidH hcell0
    have HC1 := hidH hcell1
    have HLL := hidH hll
    have hln : zs0.length ≤ zs1.length := by omega
    clear ht0 ht1 hcell0 hcell1 hv0 hv1 hll hi0'
    go_enter Try.func22, Try.ntmps22
    go_wp2_with fail
    refine HAR.out.mono ?_; rintro e w1 ⟨rfl, hb⟩
    have HB1 := hidH hb
    have HCA := hidH (fun (j : Nat) z (hj : zs0[j]? = some z) => show w1.cell? ⟨b0, off0 + j, none⟩ = some (.int .i64 z) by rw [hb.cell (p := ⟨b0, off0 + j, none⟩) hbb0]; exact HC0.out j z hj)
    have HCB := hidH (fun (j : Nat) z (hj : zs1[j]? = some z) => show w1.cell? ⟨b1, off1 + j, none⟩ = some (.int .i64 z) by rw [hb.cell (p := ⟨b1, off1 + j, none⟩) hbb1]; exact HC1.out j z hj)
    have hs1 := hb.size
    clear hb HAR
    go_wp2_with fail
    go_loopw [6, 14] (fun o i wr => ∃ (k : Nat) (ov : Value), k ≤ zs0.length ∧ i = .int .i64 k ∧ ov = o ∧ wr.ownsRow w1.heap.size 42 3 ov (errN zs0 zs1 k) (ints (errF zs0 zs1 k)) ∧ Below w1.heap.size w1 wr) (fun o i _ => zs0.length - (intOf i).toNat)
    case atStart => exact ⟨0, _, Nat.zero_le _, rfl, rfl, World.ownsRow_nil _ _ _ _, Below.refl _ _⟩
    case round =>
      obtain ⟨k, ov, hk, rfl, rfl, hown, hb⟩ := hrel
      have HW := hidH hown
      have HB := hidH hb
      clear hown hb
      by_cases hlt : k < zs0.length
      · obtain ⟨z, hz⟩ := get_lt zs0 k hlt
        obtain ⟨y, hy⟩ := get_lt zs1 k (by omega)
        have hc := HCA.out k z hz
        have hc2 := HCB.out k y hy
        have hbw0 : b0 < w1.heap.size := cell_blk _ _ _ hc
        have hbw1 : b1 < w1.heap.size := cell_blk _ _ _ hc2
        have hcw : wr.cell? ⟨b0, off0 + k, none⟩ = some (.int .i64 z) := by rw [HB.out.cell (p := ⟨b0, off0 + k, none⟩) hbw0]; exact hc
        have hcw2 : wr.cell? ⟨b1, off1 + k, none⟩ = some (.int .i64 y) := by rw [HB.out.cell (p := ⟨b1, off1 + k, none⟩) hbw1]; exact hc2
        have hgz : zs0.getD k 0 = z := getD_of hz
        have hgy : zs1.getD k 0 = y := getD_of hy
        have hNk := errN_le zs0 zs1 k
        have hkz : k < zs1.length := by omega
        clear hz hy hc hc2
        by_cases hyz : y = z
        · have HS := hidH (errF_same zs0 zs1 k (by rw [hgy, hgz]; exact hyz))
          have hb1 : (y != z) = false := by rw [hyz]; exact bne_self_eq_false _
          have hb2 : (z != y) = false := by rw [hyz]; exact bne_self_eq_false _
          clear hgz hgy hyz
          go_wp2_with fail
          go_quiet (fail)
          go_wp2_with fail
          go_roundw
          case rel => exact ⟨k + 1, ov, by omega, by go_num, rfl, by rw [HS.out.1, HS.out.2]; exact HW.out, below_drewN HB.out _⟩
          case measure => simp [intOf]; omega
        · have HS := hidH (errF_more zs0 zs1 k (by rw [hgy, hgz]; exact hyz))
          rw [hgy, hgz] at HS
          have hb1 : (y != z) = true := bne_iff_ne.2 hyz
          have hb2 : (z != y) = true := bne_iff_ne.2 (Ne.symm hyz)
          have ag0 : ov.ownBlock ≠ some b0 := fun e => by have := (HW.out.lt b0 e).1; omega
          have ag1 : ov.ownBlock ≠ some b1 := fun e => by have := (HW.out.lt b1 e).1; omega
          have hsz := HB.out.size
          clear hgz hgy hyz
          go_wp2_with fail
          go_quiet (fail)
          have HW2 := hidH (show (wr.drewN nq).ownsRow w1.heap.size 42 3 ov (errN zs0 zs1 k) (ints (errF zs0 zs1 k)) from HW.out)
          have HB2 := hidH (below_drewN HB.out nq)
          have hcq : (wr.drewN nq).cell? ⟨b0, off0 + k, none⟩ = some (.int .i64 z) := by rw [World.cell?_drewN]; exact hcw
          have hcq2 : (wr.drewN nq).cell? ⟨b1, off1 + k, none⟩ = some (.int .i64 y) := by rw [World.cell?_drewN]; exact hcw2
          have hsz2 := HB2.out.size
          clear hcw hcw2 HW HB hsz
          generalize wr.drewN nq = wq at *
          go_wp2_with fail
          go_region_held3 (fun w' => w'.cell? ⟨b0, off0 + k, none⟩ = some (.int .i64 z) ∧ w'.cell? ⟨b1, off1 + k, none⟩ = some (.int .i64 y))
            (first
              | go_keep
              | (go_split_ands
                 refine ⟨?_, ?_⟩
                 · (rw [hgrow.cell_far _ (by simp; omega) (Ne.symm ag0)]; assumption)
                 · (rw [hgrow.cell_far _ (by simp; omega) (Ne.symm ag1)]; assumption)))
            ((refine step_append_lies _ (by rfl) _ _ _ (by rfl) w1.heap.size 42 i0 _ 3 24 Try.underlying38 hi0 hz0 hz1 hz2 rfl (by omega) ov (errN zs0 zs1 k) _ (by rfl) ((HW2.out.alloc _).drew)
                ⟨wq.heap.size, 0, none⟩ 1 1 [.int .i64 (k : Int), .int .i64 y, .int .i64 z] (by rfl) (by rfl) (World.news_of_block (cs := #[.int .i64 (k : Int), .int .i64 y, .int .i64 z]) (t := 42) (fr := (0, 0)) (heap_alloc_new wq _)) (by simp [Value.oneCell'])
                (by omega) (by unfold maxLen; omega) (by omega) (by simp; omega) (wq.heap.size + 1) (by simp) ?_; intro gg cap w1' hown1 hgrow hat hlt1))
          have HR := hidH hown1
          have HG := hidH hgrow
          clear hown1 hgrow hat
          go_wp2_with fail
          go_roundw
          case rel =>
            refine ⟨k + 1, _, by omega, by go_num, rfl, ?_, ?_⟩
            · rw [HS.out.1, HS.out.2, ints_append]
              exact HR.out
            · exact (HB2.out.alloc hsz2 _).drew.grown HG.out (by simp; omega) fun g hg => (HW2.out.lt g hg).1
          case measure => simp [intOf]; omega
      · obtain rfl : k = zs0.length := by omega
        have HR := hidH (row3_of_owns HW.out (by have := errN_le zs0 zs1 zs0.length; omega))
        go_wp2_with fail
        go_ret2
        exact ⟨_, rfl, HR.out.mono HB1.out.size (Nat.le_refl _), HB1.out.trans (HB.out.mono HB1.out.size)⟩
end Go.Proofs.Ytlicihjjbojpcaa
