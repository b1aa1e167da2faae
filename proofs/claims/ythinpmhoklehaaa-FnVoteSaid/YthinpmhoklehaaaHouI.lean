/-
  Vote: the program, at every argument. No conditions but that slices fit in memory.
-/
import Derived.Test.YthinpmhoklehaaaErrE
import Derived.Test.YthinpmhoklehaaaBox
import Derived.BigRegion
namespace Go.Proofs.Ythinpmhoklehaaa
set_option maxRecDepth 4000
open Go.RowKit
/-- What at least two of three numbers are. -/
def majOk (a b c : Int) : Bool := a == b || (a == c || b == c)
def majV (a b c : Int) : Int := if a == b || a == c then a else b
def v3 (x y z : List Int) (i : Nat) : Bool := majOk (x.getD i 0) (y.getD i 0) (z.getD i 0)
/-- Three tables of the same length. -/
def threeOk (x y z : List Int) : Bool := tabsOk x y && tabsOk x z
def agreeOk (x y z : List Int) : Bool := (List.range x.length).all fun i => v3 x y z i
def voteL (x y z : List Int) : List Int := (List.range x.length).map fun i => majV (x.getD i 0) (y.getD i 0) (z.getD i 0)
def voteOk (x y z : List Int) : Bool := threeOk x y z && agreeOk x y z
/-- What Vote answers. -/
def voteA (x y z : List Int) : List Int := if voteOk x y z then voteL x y z else []
theorem voteL_length (x y z : List Int) : (voteL x y z).length = x.length := by simp [voteL]
theorem threeOk_parts {x y z : List Int} (h : threeOk x y z = true) : tableOk x = true ∧ tableOk y = true ∧ tableOk z = true ∧ x.length = y.length ∧ x.length = z.length := by
  simp only [threeOk, tabsOk, Bool.and_eq_true, decide_eq_true_eq] at h
  exact ⟨h.1.1, h.1.2.1, h.2.2.1, h.1.2.2, h.2.2.2⟩
theorem voteA_len (x y z : List Int) : (voteA x y z).length ≤ 1048576 := by
  unfold voteA
  split
  · rename_i h
    rw [voteOk, Bool.and_eq_true] at h
    have := (tableOk_len _ (threeOk_parts h.1).1).2
    rw [voteL_length]; omega
  · simp
theorem agree_all {x y z : List Int} (h : agreeOk x y z = true) (k : Nat) (hk : k < x.length) (a b c : Int) (ha : x[k]? = some a) (hb : y[k]? = some b) (hc : z[k]? = some c) : majOk a b c = true := by
  have := List.all_eq_true.1 h k (List.mem_range.2 hk)
  unfold v3 at this
  rwa [List.getD_eq_getElem?_getD, ha, List.getD_eq_getElem?_getD, hb, List.getD_eq_getElem?_getD, hc] at this
theorem agree_of {x y z : List Int} (h : ∀ j, j < x.length → v3 x y z j = true) : agreeOk x y z = true := List.all_eq_true.2 fun j hj => h j (List.mem_range.1 hj)
theorem agree_not {x y z : List Int} (k : Nat) (hk : k < x.length) (a b c : Int) (ha : x[k]? = some a) (hb : y[k]? = some b) (hc : z[k]? = some c) (h : majOk a b c = false) : agreeOk x y z = false := by
  cases e : agreeOk x y z
  · rfl
  · rw [agree_all e k hk a b c ha hb hc] at h; cases h
theorem v3_at {x y z : List Int} (k : Nat) (a b c : Int) (ha : x[k]? = some a) (hb : y[k]? = some b) (hc : z[k]? = some c) : v3 x y z k = majOk a b c := by
  unfold v3
  rw [List.getD_eq_getElem?_getD, ha, List.getD_eq_getElem?_getD, hb, List.getD_eq_getElem?_getD, hc]; rfl
theorem voteL_get {x y z : List Int} (k : Nat) (a b c : Int) (ha : x[k]? = some a) (hb : y[k]? = some b) (hc : z[k]? = some c) : (voteL x y z)[k]? = some (majV a b c) := by
  have hk := (List.getElem?_eq_some_iff.1 ha).1
  unfold voteL
  rw [List.getElem?_map, List.getElem?_range hk]
  show some (majV (x.getD k 0) (y.getD k 0) (z.getD k 0)) = _
  rw [List.getD_eq_getElem?_getD, ha, List.getD_eq_getElem?_getD, hb, List.getD_eq_getElem?_getD, hc]; rfl
theorem vote_not {x y z : List Int} (h : agreeOk x y z = false) : voteOk x y z = false ∧ voteA x y z = [] := by
  have e : voteOk x y z = false := by rw [voteOk, h, Bool.and_false]
  exact ⟨e, by rw [voteA, e]; rfl⟩
theorem vote_yes {x y z : List Int} (h1 : threeOk x y z = true) (h : agreeOk x y z = true) : voteOk x y z = true ∧ voteA x y z = voteL x y z := by
  have e : voteOk x y z = true := by rw [voteOk, h1, h]; rfl
  exact ⟨e, by rw [voteA, e]; rfl⟩
theorem majority_yes (a b c : Int) (w : World) (h : majOk a b c = true) : Calls Try.prog 41 #[.int .i64 a, .int .i64 b, .int .i64 c] w fun e w' => e = .returned (.tuple #[.int .i64 (majV a b c), .bool true]) ∧ w' = w := by
  unfold majOk at h
  unfold majV
  cases h1 : (a == b)
  · cases h2 : (a == c)
    · rw [h1, h2] at h
      have h3 : (b == c) = true := by simpa using h
      clear h
      go_enter Try.func41, Try.ntmps41
      go_wp2_with fail
      go_ret2
      exact ⟨rfl, rfl⟩
    · clear h
      go_enter Try.func41, Try.ntmps41
      go_wp2_with fail
      go_ret2
      exact ⟨rfl, rfl⟩
  · clear h
    go_enter Try.func41, Try.ntmps41
    go_wp2_with fail
    go_ret2
    exact ⟨rfl, rfl⟩
theorem majority_no (a b c : Int) (w : World) (h : majOk a b c = false) : Calls Try.prog 41 #[.int .i64 a, .int .i64 b, .int .i64 c] w fun e w' => e = .returned (.tuple #[.int .i64 0, .bool false]) ∧ w' = w := by
  unfold majOk at h
  rw [Bool.or_eq_false_iff, Bool.or_eq_false_iff] at h
  obtain ⟨h1, h2, h3⟩ := h
  go_enter Try.func41, Try.ntmps41
  go_wp2_with fail
  go_ret2
  exact ⟨rfl, rfl⟩
theorem vote_no (v0 : Value) (zs0 : List Int) (v1 : Value) (zs1 : List Int) (v2 : Value) (zs2 : List Int) (w : World) (lo0 hi0 lo1 hi1 lo2 hi2 : Nat) (hv0 : Lies w lo0 hi0 v0 zs0) (hv1 : Lies w lo1 hi1 v1 zs1) (hv2 : Lies w lo2 hi2 v2 zs2) (h : threeOk zs0 zs1 zs2 = false) : Calls Try.prog 20 #[v0, v1, v2] w (NewRowB [] false w) := by
  have HV0 := hidH hv0
  have HV1 := hidH hv1
  have HV2 := hidH hv2
  obtain ⟨a0, cap0, rfl, _, _, _, _⟩ := hv0
  clear hv1 hv2
  unfold threeOk at h
  cases h1 : tabsOk zs0 zs1
  · have T1 := hidH h1
    clear h1 h
    go_enter Try.func20, Try.ntmps20
    go_wp2_with fail
    refine (areTables_any _ zs0 _ zs1 _ _ _ _ _ HV0.out HV1.out).mono ?_; rintro e w1 ⟨rfl, hb⟩
    rw [T1.out]
    have B1 := hidH hb
    have HV0b := hidH (HV0.out.below hb)
    have HV2b := hidH (HV2.out.below hb)
    clear hb
    go_wp2_with fail
    go_ret2
    exact ⟨_, rfl, Row.nil _ _ _ _ _ (Nat.zero_le _) (fun _ => rfl), B1.out⟩
  · have T1 := hidH h1
    rw [h1, Bool.true_and] at h
    have T2 := hidH h
    clear h1 h
    go_enter Try.func20, Try.ntmps20
    go_wp2_with fail
    refine (areTables_any _ zs0 _ zs1 _ _ _ _ _ HV0.out HV1.out).mono ?_; rintro e w1 ⟨rfl, hb⟩
    rw [T1.out]
    have B1 := hidH hb
    have HV0b := hidH (HV0.out.below hb)
    have HV2b := hidH (HV2.out.below hb)
    clear hb
    go_wp2_with fail
    refine (areTables_any _ zs0 _ zs2 _ _ _ _ _ HV0b.out HV2b.out).mono ?_; rintro e w2 ⟨rfl, hb⟩
    rw [T2.out]
    have B2 := hidH (bThen B1.out hb)
    clear hb HV0b HV2b
    go_wp2_with fail
    go_ret2
    exact ⟨_, rfl, Row.nil _ _ _ _ _ (Nat.zero_le _) (fun _ => rfl), B2.out⟩
set_option maxHeartbeats 1600000 in
theorem vote_some (v0 : Value) (zs0 : List Int) (v1 : Value) (zs1 : List Int) (v2 : Value) (zs2 : List Int) (w : World) (lo0 hi0 lo1 hi1 lo2 hi2 : Nat) (hv0 : Lies w lo0 hi0 v0 zs0) (hv1 : Lies w lo1 hi1 v1 zs1) (hv2 : Lies w lo2 hi2 v2 zs2) (h : threeOk zs0 zs1 zs2 = true) : Calls Try.prog 20 #[v0, v1, v2] w (NewRowB (voteA zs0 zs1 zs2) (voteOk zs0 zs1 zs2) w) := by
  have HV0 := hidH hv0
  have HV1 := hidH hv1
  have HV2 := hidH hv2
  have HT := hidH h
  obtain ⟨k0, k1, k2, l1, l2⟩ := threeOk_parts h
  have ⟨t1, t2⟩ := tableOk_len _ k0
  obtain ⟨b0, off0, cap0, rfl, hlc0, hcm0, _, _, hbw0, hcell0⟩ := hv0.addr (by omega)
  obtain ⟨b1, off1, cap1, rfl, hlc1, hcm1, _, _, hbw1, hcell1⟩ := hv1.addr (by omega)
  obtain ⟨b2, off2, cap2, rfl, hlc2, hcm2, _, _, hbw2, hcell2⟩ := hv2.addr (by omega)
  unfold maxLen at hcm0 hcm1 hcm2
  have HC0 := hidH hcell0
  have HC1 := hidH hcell1
  have HC2 := hidH hcell2
  have L1 := hidH l1
  have L2 := hidH l2
  have hh := h
  rw [threeOk, Bool.and_eq_true] at hh
  have T1 := hidH hh.1
  have T2 := hidH hh.2
  have HLL := hidH (voteL_length zs0 zs1 zs2)
  clear hv0 hv1 hv2 hcell0 hcell1 hcell2 k0 k1 k2 hh h
  rw [← l1] at hlc1 HV1 ⊢
  rw [← l2] at hlc2 HV2 ⊢
  clear l1 l2
  go_enter Try.func20, Try.ntmps20
  go_wp2_with fail
  refine (areTables_any _ zs0 _ zs1 _ _ _ _ _ HV0.out HV1.out).mono ?_; rintro e w1 ⟨rfl, hb⟩
  rw [T1.out]
  have B1 := hidH hb
  have HV0b := hidH (HV0.out.below hb)
  have HV2b := hidH (HV2.out.below hb)
  clear hb
  go_wp2_with fail
  refine (areTables_any _ zs0 _ zs2 _ _ _ _ _ HV0b.out HV2b.out).mono ?_; rintro e w2 ⟨rfl, hb⟩
  rw [T2.out]
  have B2 := hidH (bThen B1.out hb)
  clear hb HV0b HV2b
  have HM := hidH (Blk.made w2 3 zs0.length)
  have hmk := run_make_row' (P := Try.prog) 23 3 (.int .i64 0) 8 Try.underlying23 infoInt rfl .i64 .i64 zs0.length (by omega) (by omega) w2
  go_wp2_with fail
  go_loopw [27] (fun i wr => ∃ k : Nat, k ≤ zs0.length ∧ i = .int .i64 k ∧ (∀ j, j < k → v3 zs0 zs1 zs2 j = true) ∧ Blk wr w2.heap.size (fill (voteL zs0 zs1 zs2) k) ∧ Below w2.heap.size w2 wr) (fun i _ => zs0.length - (intOf i).toNat)
  case atStart => exact ⟨0, Nat.zero_le _, rfl, (fun j h => absurd h (Nat.not_lt_zero _)), by have := HM.out; rw [fill_zero, HLL.out]; exact this, (Below.refl _ _).alloc (Nat.le_refl _) _⟩
  case round =>
    obtain ⟨k, hk, rfl, hag, hblk, hb⟩ := hrel
    have HAG := hidH hag
    have HBK := hidH hblk
    have HBq := hidH hb
    clear hag hblk hb
    by_cases hlt : k < zs0.length
    · obtain ⟨x, hx⟩ := get_lt zs0 k hlt
      obtain ⟨y, hy⟩ := get_lt zs1 k (by have := L1.out; omega)
      obtain ⟨z, hz⟩ := get_lt zs2 k (by have := L2.out; omega)
      have hcx : wr.cell? ⟨b0, off0 + k, none⟩ = some (.int .i64 x) := by rw [HBq.out.cell (p := ⟨b0, off0 + k, none⟩) (by have := B2.out.size; show b0 < w2.heap.size; omega), B2.out.cell (p := ⟨b0, off0 + k, none⟩) hbw0]; exact HC0.out k x hx
      have hcy : wr.cell? ⟨b1, off1 + k, none⟩ = some (.int .i64 y) := by rw [HBq.out.cell (p := ⟨b1, off1 + k, none⟩) (by have := B2.out.size; show b1 < w2.heap.size; omega), B2.out.cell (p := ⟨b1, off1 + k, none⟩) hbw1]; exact HC1.out k y hy
      have hcz : wr.cell? ⟨b2, off2 + k, none⟩ = some (.int .i64 z) := by rw [HBq.out.cell (p := ⟨b2, off2 + k, none⟩) (by have := B2.out.size; show b2 < w2.heap.size; omega), B2.out.cell (p := ⟨b2, off2 + k, none⟩) hbw2]; exact HC2.out k z hz
      obtain ⟨ho, hf⟩ := HBK.out.2 k 0 (fill_at _ _ (by rw [HLL.out]; exact hlt))
      have HG := hidH (fill_set _ k _ (voteL_get k x y z hx hy hz))
      have HST := hidH (HBK.out.set k (majV x y z))
      have H3 := hidH (v3_at k x y z hx hy hz)
      have HN := hidH (agree_not k hlt x y z hx hy hz)
      clear hx hy hz
      cases hmj : majOk x y z
      · have HMJ := hidH (fun W' => majority_no x y z W' hmj)
        have ⟨e1, e2⟩ := vote_not (HN.out hmj)
        rw [e1, e2]
        clear hmj e1 e2
        go_wp2_with fail
        go_quiet ((go_at_call 41; exact (HMJ.out _).mono (fun _ _ h => ⟨h.1, _, h.2⟩)))
        go_wp2_with fail
        go_ret2
        exact ⟨_, rfl, Row.nil _ _ _ _ _ (Nat.zero_le _) (fun _ => rfl), below_drewN (B2.out.trans (HBq.out.mono B2.out.size)) _⟩
      · have HMJ := hidH (fun W' => majority_yes x y z W' hmj)
        rw [hmj] at H3
        generalize majV x y z = mv at *
        clear hmj
        go_wp2_with fail
        go_quiet ((go_at_call 41; exact (HMJ.out _).mono (fun _ _ h => ⟨h.1, _, h.2⟩)))
        go_wp2_with fail
        go_roundw
        case rel =>
          refine ⟨k + 1, by omega, by go_num, fun j hj => ?_, ?_, ?_⟩
          · by_cases e : j = k
            · subst e; exact H3.out
            · exact HAG.out j (by omega)
          · rw [← HG.out]; exact (HBK.out.drewN _).set k mv
          · exact (below_drewN HBq.out _).setCell (Nat.le_refl _) _
        case measure => simp [intOf]; omega
    · obtain rfl : k = zs0.length := by omega
      have HE1 := hidH (vote_yes HT.out (agree_of HAG.out)).1
      have HE2 := hidH (vote_yes HT.out (agree_of HAG.out)).2
      go_wp2_with fail
      go_ret2
      rw [HE1.out, HE2.out]
      have h := HBK.out
      have e := fill_all (voteL zs0 zs1 zs2)
      rw [HLL.out] at e
      rw [e] at h
      exact ⟨_, rfl, h.row (by have := B2.out.size; omega) h.1 (by rw [HLL.out]; exact Nat.le_refl _) (by unfold maxLen; omega) HLL.out.symm, B2.out.trans (HBq.out.mono B2.out.size)⟩
theorem vote_any (v0 : Value) (zs0 : List Int) (v1 : Value) (zs1 : List Int) (v2 : Value) (zs2 : List Int) (w : World) (lo0 hi0 lo1 hi1 lo2 hi2 : Nat) (hv0 : Lies w lo0 hi0 v0 zs0) (hv1 : Lies w lo1 hi1 v1 zs1) (hv2 : Lies w lo2 hi2 v2 zs2) : Calls Try.prog 20 #[v0, v1, v2] w (NewRowB (voteA zs0 zs1 zs2) (voteOk zs0 zs1 zs2) w) := by
  cases h : threeOk zs0 zs1 zs2
  · have e : voteOk zs0 zs1 zs2 = false := by rw [voteOk, h]; rfl
    rw [voteA, e]
    exact vote_no v0 zs0 v1 zs1 v2 zs2 w lo0 hi0 lo1 hi1 lo2 hi2 hv0 hv1 hv2 h
  · exact vote_some v0 zs0 v1 zs1 v2 zs2 w lo0 hi0 lo1 hi1 lo2 hi2 hv0 hv1 hv2 h
end Go.Proofs.Ythinpmhoklehaaa
