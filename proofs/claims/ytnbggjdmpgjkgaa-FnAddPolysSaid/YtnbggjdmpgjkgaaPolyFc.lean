/-
  Multiples of polynomials: the program and the model, at every argument. No conditions but that slices fit in memory.
-/
import Derived.Test.YtnbggjdmpgjkgaaPolyFb
import Derived.Test.YtnbggjdmpgjkgaaPolyNewton
namespace Go.Proofs.Ytnbggjdmpgjkgaa
open Go.RowKit
/-- What ScalePoly answers. -/
def scaleL (zs : List Int) (k : Int) : List Int := zs.map fun x => k * x
def scaleA (zs : List Int) (k : Int) : List Int := if polyOk zs && inB 100000 k then resL (scaleL zs k) else []
def scaleB (zs : List Int) (k : Int) : Bool := polyOk zs && inB 100000 k && polyOk (scaleL zs k)
theorem scaleA_len (zs : List Int) (k : Int) : (scaleA zs k).length ≤ 1048576 := by unfold scaleA; split <;> first | exact resL_len _ | simp
theorem scaleL_length (zs : List Int) (k : Int) : (scaleL zs k).length = zs.length := by simp [scaleL]
theorem scaleL_get (zs : List Int) (k : Int) (i : Nat) (z : Int) (h : zs[i]? = some z) : (scaleL zs k)[i]? = some (k * z) := by simp [scaleL, h]
/-- What MulPolys answers. -/
def mulV (zs ys : List Int) (m : Nat) : List Int := (List.range m).map fun (i : Nat) => evP zs i * evP ys i
theorem mulV_length (zs ys : List Int) (m : Nat) : (mulV zs ys m).length = m := by simp [mulV]
theorem mulV_get (zs ys : List Int) (m i : Nat) (h : i < m) : (mulV zs ys m)[i]? = some (evP zs i * evP ys i) := by simp [mulV, h]
def mulOk (zs ys : List Int) : Bool := decide (zs.length + ys.length ≤ 8)
def mulL (zs ys : List Int) : List Int := leadW (zs.length + ys.length - 1) (mulV zs ys (zs.length + ys.length - 1))
def mulA (zs ys : List Int) : List Int := if polyOk zs && polyOk ys && mulOk zs ys then resL (mulL zs ys) else []
def mulB (zs ys : List Int) : Bool := polyOk zs && polyOk ys && mulOk zs ys && polyOk (mulL zs ys)
theorem mulA_len (zs ys : List Int) : (mulA zs ys).length ≤ 1048576 := by unfold mulA; split <;> first | exact resL_len _ | simp
theorem chN_small (k j : Nat) (hk : k ≤ 6) (hj : j ≤ 6) : (chN k j).natAbs ≤ 20 := by
  have hk' : k = 0 ∨ k = 1 ∨ k = 2 ∨ k = 3 ∨ k = 4 ∨ k = 5 ∨ k = 6 := by omega
  have hj' : j = 0 ∨ j = 1 ∨ j = 2 ∨ j = 3 ∨ j = 4 ∨ j = 5 ∨ j = 6 := by omega
  rcases hk' with rfl | rfl | rfl | rfl | rfl | rfl | rfl <;> rcases hj' with rfl | rfl | rfl | rfl | rfl | rfl | rfl <;> decide
theorem ev_small (k : Nat) (hk : k ≤ 6) (p : List Int) (hp : ∀ x ∈ p, x.natAbs ≤ 100000) (j : Nat) (hj : j + p.length ≤ 7) : (ev k p j).natAbs ≤ p.length * 2000000 := by
  induction p generalizing j with
  | nil => simp [ev]
  | cons x p ih =>
    have hx := hp x List.mem_cons_self
    rw [List.length_cons] at hj ⊢
    have hr := ih (fun y hy => hp y (List.mem_cons_of_mem _ hy)) (j + 1) (by omega)
    have hm := abs_mul_le (a := x) (b := chN k j) (A := 100000) (B := 20) hx (chN_small k j hk (by omega))
    rw [ev, Nat.add_mul]
    omega
theorem val_small {zs : List Int} (h : Small zs) (k : Nat) (hk : k ≤ 6) : (evP zs k).natAbs ≤ 14000000 := by
  have hb := ev_small k hk zs (fun x hx => by have := h.2 x hx; omega) 0 (by have := h.1; omega)
  have h1 := h.1
  unfold evP
  omega
theorem prod_bd {zs ys : List Int} (hz : Small zs) (hy : Small ys) (k : Nat) (hk : k ≤ 6) : -196000000000000 ≤ evP zs k * evP ys k ∧ evP zs k * evP ys k ≤ 196000000000000 := by
  have := abs_mul_le (val_small hz k hk) (val_small hy k hk)
  omega
theorem scale_no (v0 : Value) (zs0 : List Int) (n1 : Int) (w : World) (lo0 hi0 : Nat) (hv0 : Lies w lo0 hi0 v0 zs0) (h : (polyOk zs0 && inB 100000 n1) = false) : Calls Try.prog 35 #[v0, .int .i64 n1] w (NewRowB [] false w) := by
  have HV0_0 := hidH hv0
  clear hv0
  have HB0 := hidH (Below.refl w.heap.size w)
  cases hc0 : polyOk zs0
  · have HC0 := hidH hc0
    clear h hc0
    go_enter Try.func35, Try.ntmps35
    go_wp2_with fail
    refine (polyValid_any v0 zs0 _ _ _ HV0_0.out).mono ?_; rintro e w1 ⟨rfl, hb⟩
    have HV0_1 := hidH (HV0_0.out.below hb)
    clear HV0_0
    have HB1 := hidH (HB0.out.trans (hb.mono HB0.out.size))
    clear hb HB0
    rw [HC0.out]
    go_wp2_with fail
    go_ret2
    exact ⟨_, rfl, Row.nil _ _ _ _ _ (Nat.zero_le _) (fun _ => rfl), HB1.out⟩
  · rw [hc0, Bool.true_and] at h
    have HC0 := hidH hc0
    clear hc0
    · have HC1 := hidH h
      clear h
      go_enter Try.func35, Try.ntmps35
      go_wp2_with fail
      refine (polyValid_any v0 zs0 _ _ _ HV0_0.out).mono ?_; rintro e w1 ⟨rfl, hb⟩
      have HV0_1 := hidH (HV0_0.out.below hb)
      clear HV0_0
      have HB1 := hidH (HB0.out.trans (hb.mono HB0.out.size))
      clear hb HB0
      rw [HC0.out]
      go_wp2_with fail
      refine (within_any n1 100000 (by omega) (by omega) _).mono ?_; rintro e w_ ⟨rfl, rfl⟩
      rw [HC1.out]
      go_wp2_with fail
      go_ret2
      exact ⟨_, rfl, Row.nil _ _ _ _ _ (Nat.zero_le _) (fun _ => rfl), HB1.out⟩
set_option maxHeartbeats 800000 in
theorem scale_yes (v0 : Value) (zs0 : List Int) (n1 : Int) (w : World) (lo0 hi0 : Nat) (hv0 : Lies w lo0 hi0 v0 zs0) (hc0 : (polyOk zs0) = true) (hc1 : (inB 100000 n1) = true) : Calls Try.prog 35 #[v0, .int .i64 n1] w (NewRowB (resL (scaleL zs0 n1)) (polyOk (scaleL zs0 n1)) w) := by
  have HV0_0 := hidH hv0
  clear hv0
  have HB0 := hidH (Below.refl w.heap.size w)
  have HC0 := hidH hc0
  have HC1 := hidH hc1
  have ⟨h1, hs⟩ := polyOk_small _ HC0.out
  have h7 := hs.1
  have HS := hidH hs
  clear hs
  have ⟨ha, hb⟩ : -100000 ≤ n1 ∧ n1 ≤ 100000 := of_decide_eq_true HC1.out
  clear hc0 hc1
  go_enter Try.func35, Try.ntmps35
  go_wp2_with fail
  refine (polyValid_any v0 zs0 _ _ _ HV0_0.out).mono ?_; rintro e w1 ⟨rfl, hb⟩
  have HV0_1 := hidH (HV0_0.out.below hb)
  clear HV0_0
  have HB1 := hidH (HB0.out.trans (hb.mono HB0.out.size))
  clear hb HB0
  rw [HC0.out]
  go_wp2_with fail
  refine (within_any n1 100000 (by omega) (by omega) _).mono ?_; rintro e w_ ⟨rfl, rfl⟩
  rw [HC1.out]
  have HV := hidH HV0_1.out
  obtain ⟨b, off, cap, rfl, hlc, hcm, hl1, hh1, hbw, hcell⟩ := (HV0_1.out).addr (by omega)
  have HCL := hidH hcell
  clear hcell
  unfold maxLen at hcm
  have HLL := hidH (scaleL_length zs0 n1)
  have HM := hidH (Blk.made w1 3 zs0.length)
  have hmk := run_make_row' (P := Try.prog) 28 3 (.int .i64 0) 8 Try.underlying28 infoInt rfl .i64 .i64 zs0.length (by omega) (by omega) w1
  go_wp2_with fail
  go_loopw [21] (fun i wr => ∃ k : Nat, k ≤ zs0.length ∧ i = .int .i64 k ∧ Blk wr (w1).heap.size (fill (scaleL zs0 n1) k) ∧ Below (w1).heap.size w1 wr) (fun i _ => zs0.length - (intOf i).toNat)
  case atStart => exact ⟨0, Nat.zero_le _, rfl, by have := HM.out; rw [fill_zero, HLL.out]; exact this, (Below.refl _ _).alloc (Nat.le_refl _) _⟩
  case round =>
    obtain ⟨k, hk, rfl, hblk, hb⟩ := hrel
    have HBK := hidH hblk
    have HBq := hidH hb
    clear hblk hb
    by_cases hlt : k < zs0.length
    · obtain ⟨ho, hf⟩ := HBK.out.2 k 0 (fill_at _ _ (by rw [HLL.out]; exact hlt))
      obtain ⟨z, hz⟩ := get_lt zs0 k hlt
      have ⟨g1, g2⟩ := HS.out.2 z (List.mem_of_getElem? hz)
      have hp : (n1 * z).natAbs ≤ 100000 * 100000 := abs_mul_le (by omega) (by omega)
      have hp1 : -10000000000 ≤ n1 * z := by omega
      have hp2 : n1 * z ≤ 10000000000 := by omega
      have hc0 := HCL.out k z hz
      have hcw : wr.cell? ⟨b, off + k, none⟩ = some (.int .i64 z) := by rw [HBq.out.cell (p := ⟨b, off + k, none⟩) (cell_blk _ _ _ hc0)]; exact hc0
      have HG := hidH (fill_set _ k _ (scaleL_get zs0 n1 k z hz))
      have HST := hidH (HBK.out.set k (n1 * z))
      clear hz hc0 hp
      go_wp2_with fail
      go_roundw
      case rel => exact ⟨k + 1, by omega, by go_num, by rw [← HG.out]; exact HST.out, HBq.out.setCell (Nat.le_refl _) _⟩
      case measure => simp [intOf]; omega
    · obtain rfl : k = zs0.length := by omega
      have h := HBK.out
      have e := fill_all (scaleL zs0 n1)
      rw [HLL.out] at e
      rw [e] at h
      have HRW := hidH (h.row (lo := (w1).heap.size) (cap := zs0.length) (n := zs0.length) (Nat.le_refl _) h.1 (by rw [HLL.out]; exact Nat.le_refl _) (by unfold maxLen; omega) HLL.out.symm)
      clear h e
      have HT := hidH (ifPoly_any _ _ wr _ (HRW.out))
      generalize scaleL zs0 n1 = L at *
      generalize polyOk L = r at *
      go_wp2_with (go_at_call 54; refine HT.out.mono ?_; rintro e w2 ⟨v2, rfl, hr, hb⟩)
      go_ret2
      have hsz := HB1.out.size
      exact ⟨_, rfl, hr.mono hsz (Nat.le_refl _), HB1.out.trans ((HBq.out.trans (hb.mono HBq.out.size)).mono hsz)⟩
theorem scale_any (v0 : Value) (zs0 : List Int) (n1 : Int) (w : World) (lo0 hi0 : Nat) (hv0 : Lies w lo0 hi0 v0 zs0) : Calls Try.prog 35 #[v0, .int .i64 n1] w (NewRowB (scaleA zs0 n1) (scaleB zs0 n1) w) := by
  unfold scaleA scaleB
  cases h : (polyOk zs0 && inB 100000 n1)
  · exact scale_no v0 zs0 n1 w lo0 hi0 hv0 h
  · have h' := h
    try simp only [Bool.and_eq_true] at h'
    exact scale_yes v0 zs0 n1 w lo0 hi0 hv0 h'.1 h'.2
theorem sScale_no (v0 : Value) (zs0 : List Int) (n1 : Int) (w : World) (lo0 hi0 : Nat) (hv0 : Lies w lo0 hi0 v0 zs0) (h : (polyOk zs0 && inB 100000 n1) = false) : Calls Try.prog 36 #[v0, .int .i64 n1] w (NewRowB [] false w) := by
  have HV0_0 := hidH hv0
  clear hv0
  have HB0 := hidH (Below.refl w.heap.size w)
  cases hc0 : polyOk zs0
  · have HC0 := hidH hc0
    clear h hc0
    go_enter Try.func36, Try.ntmps36
    go_wp2_with fail
    refine (sPolyValid_gives v0 zs0 _ _ _ HV0_0.out).mono ?_; rintro e w1 ⟨rfl, hb⟩
    have HV0_1 := hidH (HV0_0.out.below hb)
    clear HV0_0
    have HB1 := hidH (HB0.out.trans (hb.mono HB0.out.size))
    clear hb HB0
    rw [HC0.out]
    go_wp2_with fail
    go_ret2
    exact ⟨_, rfl, Row.nil _ _ _ _ _ (Nat.zero_le _) (fun _ => rfl), HB1.out.trans (((Below.refl _ _).alloc (Nat.le_refl _) _).mono HB1.out.size)⟩
  · rw [hc0, Bool.true_and] at h
    have HC0 := hidH hc0
    clear hc0
    · have HC1 := hidH h
      clear h
      go_enter Try.func36, Try.ntmps36
      go_wp2_with fail
      refine (sPolyValid_gives v0 zs0 _ _ _ HV0_0.out).mono ?_; rintro e w1 ⟨rfl, hb⟩
      have HV0_1 := hidH (HV0_0.out.below hb)
      clear HV0_0
      have HB1 := hidH (HB0.out.trans (hb.mono HB0.out.size))
      clear hb HB0
      rw [HC0.out]
      go_wp2_with fail
      refine (sIn_any n1 (-100000) (100000) (inB 100000 n1) rfl _).mono ?_; rintro e w_ ⟨rfl, rfl⟩
      rw [HC1.out]
      go_wp2_with fail
      go_ret2
      exact ⟨_, rfl, Row.nil _ _ _ _ _ (Nat.zero_le _) (fun _ => rfl), HB1.out.trans (((Below.refl _ _).alloc (Nat.le_refl _) _).mono HB1.out.size)⟩
set_option maxHeartbeats 800000 in
theorem sScale_yes (v0 : Value) (zs0 : List Int) (n1 : Int) (w : World) (lo0 hi0 : Nat) (hv0 : Lies w lo0 hi0 v0 zs0) (hc0 : (polyOk zs0) = true) (hc1 : (inB 100000 n1) = true) : Calls Try.prog 36 #[v0, .int .i64 n1] w (NewRowB (resL (scaleL zs0 n1)) (polyOk (scaleL zs0 n1)) w) := by
  have HV0_0 := hidH hv0
  clear hv0
  have HB0 := hidH (Below.refl w.heap.size w)
  have HC0 := hidH hc0
  have HC1 := hidH hc1
  have ⟨h1, hs⟩ := polyOk_small _ HC0.out
  have h7 := hs.1
  have HS := hidH hs
  clear hs
  have ⟨ha, hb⟩ : -100000 ≤ n1 ∧ n1 ≤ 100000 := of_decide_eq_true HC1.out
  clear hc0 hc1
  go_enter Try.func36, Try.ntmps36
  go_wp2_with fail
  refine (sPolyValid_gives v0 zs0 _ _ _ HV0_0.out).mono ?_; rintro e w1 ⟨rfl, hb⟩
  have HV0_1 := hidH (HV0_0.out.below hb)
  clear HV0_0
  have HB1 := hidH (HB0.out.trans (hb.mono HB0.out.size))
  clear hb HB0
  rw [HC0.out]
  go_wp2_with fail
  refine (sIn_any n1 (-100000) (100000) (inB 100000 n1) rfl _).mono ?_; rintro e w_ ⟨rfl, rfl⟩
  rw [HC1.out]
  have HV := hidH HV0_1.out
  obtain ⟨b, off, cap, rfl, hlc, hcm, hl1, hh1, hbw, hcell⟩ := (HV0_1.out).addr (by omega)
  have HCL := hidH hcell
  clear hcell
  unfold maxLen at hcm
  obtain ⟨i0, hi0, hz0, hz1, hz2⟩ := info_parts infoInt
  have HO := hidH (World.ownsRow_made (base := (w1).heap.size) (e := 3) (size := 1) w1 #[] 0 (Nat.le_refl _) (Nat.zero_le _) rfl)
  have HLL := hidH (scaleL_length zs0 n1)
  go_wp2_with fail
  go_loopw [6, 7] (fun o i wr => ∃ (k : Nat) (ov : Value), k ≤ zs0.length ∧ i = .int .i64 k ∧ ov = o ∧ wr.ownsRow (w1).heap.size 3 1 ov k (ints ((scaleL zs0 n1).take k)) ∧ Below (w1).heap.size w1 wr) (fun _ i _ => zs0.length - (intOf i).toNat)
  case atStart => exact ⟨0, _, Nat.zero_le _, rfl, rfl, HO.out, (Below.refl _ _).alloc (Nat.le_refl _) _⟩
  case round =>
    obtain ⟨k, ov, hk, rfl, rfl, hown, hb⟩ := hrel
    have HW := hidH hown
    have HBq := hidH hb
    clear hown hb
    have hszq := HBq.out.size
    by_cases hlt : k < zs0.length
    · obtain ⟨z, hz⟩ := get_lt zs0 k hlt
      have ⟨g1, g2⟩ := HS.out.2 z (List.mem_of_getElem? hz)
      have hp : (n1 * z).natAbs ≤ 100000 * 100000 := abs_mul_le (by omega) (by omega)
      have hp1 : -10000000000 ≤ n1 * z := by omega
      have hp2 : n1 * z ≤ 10000000000 := by omega
      have hc0 := HCL.out k z hz
      have hcw : wr.cell? ⟨b, off + k, none⟩ = some (.int .i64 z) := by rw [HBq.out.cell (p := ⟨b, off + k, none⟩) (cell_blk _ _ _ hc0)]; exact hc0
      have HX := hidH (ints_snoc _ k _ (scaleL_get zs0 n1 k z hz))
      clear hz hc0 hp
      go_wp2_with (at_builtin; refine wpList_append_own _ rfl _ _ 28 rfl (w1).heap.size 3 i0 (.int .i64 0) 1 8 Try.underlying28 hi0 hz0 hz1 hz2 rfl (by decide) _ _ _ rfl (owns_below HW.out ((Below.refl _ wr).alloc (Nat.le_refl _) _)) ⟨wr.heap.size, 0, none⟩ 1 1 [.int .i64 (n1 * z)] rfl rfl (news_one wr _ _) (one_one _) (by unfold maxLen; omega) (by omega) (by simp; omega) ?_)
      intro v' w1 hown1 hgrow _
      have HR := hidH hown1
      have HG := hidH hgrow
      clear hown1 hgrow
      go_wp2_with fail
      go_roundw
      case rel =>
        refine ⟨k + 1, v', by omega, by go_num, rfl, ?_, ?_⟩
        · have h := HR.out
          rw [HX.out] at h
          exact h
        · exact (HBq.out.alloc hszq _).grown HG.out (by simp; omega) fun g hg => (HW.out.lt g hg).1
      case measure => simp [intOf]; omega
    · obtain rfl : k = zs0.length := by omega
      have h := HW.out
      rw [List.take_of_length_le (by rw [HLL.out]; exact Nat.le_refl _)] at h
      have HRW := hidH (row_of_owns h).1
      clear h
      cases hk : polyOk (scaleL zs0 n1)
      · have HE := hidH (show resL (scaleL zs0 n1) = [] by rw [resL, hk]; rfl)
        have HK := hidH hk
        clear hk
        go_wp2_with fail
        refine (sPolyValid_gives _ _ _ _ _ HRW.out.lies).mono ?_; rintro e w2 ⟨rfl, hb⟩
        rw [HK.out]
        have HBr := hidH (HBq.out.trans (hb.mono HBq.out.size))
        clear hb
        go_wp2_with fail
        go_ret2
        rw [HE.out, HK.out]
        have hsz := HB1.out.size
        exact ⟨_, rfl, Row.nil _ _ _ _ _ (Nat.zero_le _) (fun _ => rfl), HB1.out.trans ((HBr.out.trans (((Below.refl _ _).alloc (Nat.le_refl _) _).mono HBr.out.size)).mono hsz)⟩
      · have HE := hidH (show resL (scaleL zs0 n1) = scaleL zs0 n1 by rw [resL, hk]; rfl)
        have HK := hidH hk
        clear hk
        go_wp2_with fail
        refine (sPolyValid_gives _ _ _ _ _ HRW.out.lies).mono ?_; rintro e w2 ⟨rfl, hb⟩
        rw [HK.out]
        have HBr := hidH (HBq.out.trans (hb.mono HBq.out.size))
        have HRr := hidH (HRW.out.below hb)
        have hszr := hb.size
        clear hb
        go_wp2_with fail
        go_ret2
        rw [HE.out, HK.out]
        have hsz := HB1.out.size
        exact ⟨_, rfl, HRr.out.mono hsz hszr, HB1.out.trans (HBr.out.mono hsz)⟩
theorem sScale_any (v0 : Value) (zs0 : List Int) (n1 : Int) (w : World) (lo0 hi0 : Nat) (hv0 : Lies w lo0 hi0 v0 zs0) : Calls Try.prog 36 #[v0, .int .i64 n1] w (NewRowB (scaleA zs0 n1) (scaleB zs0 n1) w) := by
  unfold scaleA scaleB
  cases h : (polyOk zs0 && inB 100000 n1)
  · exact sScale_no v0 zs0 n1 w lo0 hi0 hv0 h
  · have h' := h
    try simp only [Bool.and_eq_true] at h'
    exact sScale_yes v0 zs0 n1 w lo0 hi0 hv0 h'.1 h'.2
end Go.Proofs.Ytnbggjdmpgjkgaa
