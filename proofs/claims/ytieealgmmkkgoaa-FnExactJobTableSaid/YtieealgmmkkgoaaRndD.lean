/-
  RoundTable: the program, at every argument. No conditions but that slices fit in memory.
-/
import Derived.Test.YtieealgmmkkgoaaRndB
import Derived.Test.YtieealgmmkkgoaaErrC
namespace Go.Proofs.Ytieealgmmkkgoaa
set_option maxRecDepth 4000
open Go.RowKit
/-- The rounded entries. -/
def rndL (u way : Int) (zs : List Int) : List Int := zs.map fun n => rndI n u way
theorem rndL_length (u way : Int) (zs : List Int) : (rndL u way zs).length = zs.length := by simp [rndL]
theorem rndL_get (u way : Int) (zs : List Int) (k : Nat) (z : Int) (h : zs[k]? = some z) : (rndL u way zs)[k]? = some (rndI z u way) := by simp [rndL, h]
def rtabB (zs : List Int) (d way : Int) : Bool := tableOk zs && wayOk d way
/-- What RoundTable answers. -/
def rtabA (zs : List Int) (d way : Int) : List Int := if rtabB zs d way then rndL (tenP d.toNat) way zs else []
theorem rtabA_len (zs : List Int) (d way : Int) : (rtabA zs d way).length ≤ 1048576 := by
  unfold rtabA rtabB
  split
  · rename_i h
    rw [Bool.and_eq_true] at h
    have := tableOk_len _ h.1
    rw [rndL_length]; omega
  · simp
/-- The error of a rounded number. -/
def rDif (u way z : Int) : Int := z - rndI z u way * u
/-- The greatest error of the first k entries. -/
def eMax (u way : Int) (zs : List Int) : Nat → Int
  | 0 => 0
  | k + 1 => max (eMax u way zs k) (max (rDif u way (zs.getD k 0)) (-rDif u way (zs.getD k 0)))
def rerrA (zs : List Int) (d way : Int) : Int := if rtabB zs d way then eMax (tenP d.toNat) way zs zs.length else -1
theorem rDif_bd (u way z : Int) (hu : IsUnit u) (h : way = 0 ∨ way ≠ 0) : -u < rDif u way z ∧ rDif u way z < u ∧ (way ≠ 0 → 2 * rDif u way z ≤ u ∧ -u ≤ 2 * rDif u way z) := by
  have h1 := hu.bd
  have h2 := rnd_bounds z u way hu
  unfold rDif
  rcases h with h | h
  · have := h2.1 h
    exact ⟨by omega, by omega, fun e => absurd h e⟩
  · have := h2.2 h
    exact ⟨by omega, by omega, fun _ => this⟩
theorem eMax_bd (u way : Int) (zs : List Int) (hu : IsUnit u) (k : Nat) : 0 ≤ eMax u way zs k ∧ eMax u way zs k < u ∧ (way ≠ 0 → 2 * eMax u way zs k ≤ u) := by
  have h1 := hu.bd
  induction k with
  | zero => exact ⟨Int.le_refl _, by unfold eMax; omega, fun _ => by unfold eMax; omega⟩
  | succ k ih =>
    have h := rDif_bd u way (zs.getD k 0) hu (by omega)
    unfold eMax
    generalize rDif u way (zs.getD k 0) = d at *
    generalize eMax u way zs k = g at *
    obtain ⟨i1, i2, i3⟩ := ih
    obtain ⟨a1, a2, a3⟩ := h
    exact ⟨by omega, by omega, fun e => by have := i3 e; have := a3 e; omega⟩
theorem roundTable_no (v0 : Value) (zs0 : List Int) (d way : Int) (w : World) (lo0 hi0 : Nat) (hv0 : Lies w lo0 hi0 v0 zs0) (h : rtabB zs0 d way = false) : Calls Try.prog 20 #[v0, .int .i64 d, .int .i64 way] w (NewRowB [] false w) := by
  have HV0 := hidH hv0
  clear hv0
  unfold rtabB at h
  cases hw : wayOk d way
  · have HR := hidH (roundingOf_no d way hw w)
    have hst := fun W => store_fun W 0 .nilFunc rfl
    clear hw h
    go_enter Try.func20, Try.ntmps20
    go_wp2_with fail
    refine HR.out.mono ?_; rintro e w1 ⟨rfl, hb⟩
    have HB := hidH (bMore hb (.cells #[.int .i64 0, .nilFunc] 57))
    clear hb
    go_wp2_with fail
    go_ret2
    exact ⟨_, rfl, Row.nil _ _ _ _ _ (Nat.zero_le _) (fun _ => rfl), HB.out⟩
  · obtain ⟨k, rfl, k6, w0, w2, hu⟩ := wayOk_parts hw
    rw [hw, Bool.and_true] at h
    have HT := hidH h
    have HR := hidH (roundingOf_yes k way k6 w0 w2 w)
    generalize tenP k = u at *
    have hst := fun W => store_fun W u (rFun u way) rfl
    clear hw h
    go_enter Try.func20, Try.ntmps20
    go_wp2_with fail
    refine HR.out.mono ?_; rintro e w1 ⟨rfl, hb⟩
    have HB := hidH (bMore hb (.cells #[.int .i64 u, rFun u way] 57))
    clear hb
    go_wp2_with fail
    refine (tableValid_any _ zs0 _ _ _ (HV0.out.below HB.out)).mono ?_; rintro e w2 ⟨rfl, hb⟩
    rw [HT.out]
    have HB2 := hidH (bThen HB.out hb)
    clear hb
    go_wp2_with fail
    go_ret2
    exact ⟨_, rfl, Row.nil _ _ _ _ _ (Nat.zero_le _) (fun _ => rfl), HB2.out⟩
set_option maxHeartbeats 1600000 in
theorem roundTable_yes0 (v0 : Value) (zs0 : List Int) (k : Nat) (w : World) (lo0 hi0 : Nat) (hv0 : Lies w lo0 hi0 v0 zs0) (h : tableOk zs0 = true) (k6 : k ≤ 6) : Calls Try.prog 20 #[v0, .int .i64 k, .int .i64 0] w (NewRowB (rndL (tenP k) 0 zs0) true w) := by
  have HV0_0 := hidH hv0
  have ⟨ht1, ht2⟩ := tableOk_len _ h
  have hu : IsUnit (tenP k) := by have := unit_of (k : Int) (by omega) (by omega); rwa [Int.toNat_natCast] at this
  have HR := hidH (roundingOf_yes k 0 k6 (by omega) (by omega) w)
  generalize tenP k = u at *
  rw [show rFun u 0 = .func (.func 53) #[.int .i64 u] #[] from rfl] at HR
  have hst := fun W => store_fun W u (.func (.func 53) #[.int .i64 u] #[]) rfl
  have HC := hidH (fun n n1 n2 W' => down_any u n hu n1 n2 W')
  obtain ⟨b0, off0, cap0, rfl, hlc0, hcm0, hlo0, hhi0, hbw0, hcell0⟩ := hv0.addr (by omega)
  have HCELL := hidH hcell0
  clear hv0 hcell0 hu
  have HC0 := hidH h
  clear h
  unfold maxLen at hcm0
  go_enter Try.func20, Try.ntmps20
  go_wp2_with fail
  refine HR.out.mono ?_; rintro e w1 ⟨rfl, hb⟩
  have HB1 := hidH hb
  have BB := hidH (bMore hb (.cells #[.int .i64 u, .func (.func 53) #[.int .i64 u] #[]] 57))
  have HG0 := hidH (RndAt.fresh w1 u (.func (.func 53) #[.int .i64 u] #[]))
  have hsz1 := hb.size
  clear hb
  go_wp2_with fail
  refine (tableValid_any _ zs0 _ _ _ (HV0_0.out.below BB.out)).mono ?_; rintro e w2 ⟨rfl, hb⟩
  rw [HC0.out]
  have HB2 := hidH (bThen BB.out hb)
  have HG := hidH (HG0.out.below hb)
  have hsz2 := hb.size
  rw [World.size_alloc] at hsz2
  clear hb HV0_0 HR HB1 BB HG0
  have HLL := hidH (rndL_length u 0 zs0)
  have HM := hidH (Blk.made w2 3 zs0.length)
  have hmk := run_make_row' (P := Try.prog) 22 3 (.int .i64 0) 8 Try.underlying22 infoInt rfl .i64 .i64 zs0.length (by omega) (by omega) w2
  have hc1 := HG.out.cell1
  go_wp2_with fail
  go_loopw [31] (fun i wr => ∃ k : Nat, k ≤ zs0.length ∧ i = .int .i64 k ∧ Blk wr w2.heap.size (fill (rndL u 0 zs0) k) ∧ Below w2.heap.size w2 wr) (fun i _ => zs0.length - (intOf i).toNat)
  case atStart => exact ⟨0, Nat.zero_le _, rfl, by have := HM.out; rw [fill_zero, HLL.out]; exact this, (Below.refl _ _).alloc (Nat.le_refl _) _⟩
  case round =>
    obtain ⟨k, hk, rfl, hblk, hb⟩ := hrel
    have HBK := hidH hblk
    have HBq := hidH hb
    clear hblk hb
    have hcr : wr.cell? ⟨w1.heap.size, 1, none⟩ = some (.func (.func 53) #[.int .i64 u] #[]) := by rw [HBq.out.cell (p := ⟨w1.heap.size, 1, none⟩) (by show w1.heap.size < w2.heap.size; omega)]; exact hc1
    by_cases hlt : k < zs0.length
    · obtain ⟨ho, hf⟩ := HBK.out.2 k 0 (fill_at _ _ (by rw [HLL.out]; exact hlt))
      obtain ⟨z, hz⟩ := get_lt zs0 k hlt
      have ⟨z1, z2⟩ := tab_bd HC0.out hz
      have hcz := HCELL.out k z hz
      have hcw : wr.cell? ⟨b0, off0 + k, none⟩ = some (.int .i64 z) := by rw [HBq.out.cell (p := ⟨b0, off0 + k, none⟩) (by show b0 < w2.heap.size; omega), HB2.out.cell (p := ⟨b0, off0 + k, none⟩) hbw0]; exact hcz
      have HGF := hidH (fill_set _ k _ (rndL_get u 0 zs0 k z hz))
      have HST := hidH (HBK.out.set k (rndI z u 0))
      have HCZ := hidH (HC.out z z1 z2)
      clear hcz hz
      go_wp2_with fail
      refine (HCZ.out _).mono ?_; rintro e w9 ⟨rfl, q, rfl⟩
      generalize rndI z u 0 = rz at *
      go_wp2_with fail

      go_roundw
      case rel => exact ⟨k + 1, by omega, by go_num, by rw [← HGF.out]; exact HST.out.drewN q, below_drewN (HBq.out.setCell (Nat.le_refl _) _) q⟩
      case measure => simp [intOf]; omega
    · obtain rfl : k = zs0.length := by omega
      go_wp2_with fail
      go_ret2
      have h := HBK.out
      have e := fill_all (rndL u 0 zs0)
      rw [HLL.out] at e
      rw [e] at h
      exact ⟨_, rfl, h.row (by omega) h.1 (by rw [HLL.out]; exact Nat.le_refl _) (by unfold maxLen; omega) HLL.out.symm, HB2.out.trans (HBq.out.mono HB2.out.size)⟩
set_option maxHeartbeats 1600000 in
theorem roundTable_yes1 (v0 : Value) (zs0 : List Int) (k : Nat) (w : World) (lo0 hi0 : Nat) (hv0 : Lies w lo0 hi0 v0 zs0) (h : tableOk zs0 = true) (k6 : k ≤ 6) : Calls Try.prog 20 #[v0, .int .i64 k, .int .i64 1] w (NewRowB (rndL (tenP k) 1 zs0) true w) := by
  have HV0_0 := hidH hv0
  have ⟨ht1, ht2⟩ := tableOk_len _ h
  have hu : IsUnit (tenP k) := by have := unit_of (k : Int) (by omega) (by omega); rwa [Int.toNat_natCast] at this
  have HR := hidH (roundingOf_yes k 1 k6 (by omega) (by omega) w)
  generalize tenP k = u at *
  rw [show rFun u 1 = .func (.func 54) #[.int .i64 u] #[] from rfl] at HR
  have hst := fun W => store_fun W u (.func (.func 54) #[.int .i64 u] #[]) rfl
  have HC := hidH (fun n n1 n2 W' => near_any u n hu n1 n2 W')
  obtain ⟨b0, off0, cap0, rfl, hlc0, hcm0, hlo0, hhi0, hbw0, hcell0⟩ := hv0.addr (by omega)
  have HCELL := hidH hcell0
  clear hv0 hcell0 hu
  have HC0 := hidH h
  clear h
  unfold maxLen at hcm0
  go_enter Try.func20, Try.ntmps20
  go_wp2_with fail
  refine HR.out.mono ?_; rintro e w1 ⟨rfl, hb⟩
  have HB1 := hidH hb
  have BB := hidH (bMore hb (.cells #[.int .i64 u, .func (.func 54) #[.int .i64 u] #[]] 57))
  have HG0 := hidH (RndAt.fresh w1 u (.func (.func 54) #[.int .i64 u] #[]))
  have hsz1 := hb.size
  clear hb
  go_wp2_with fail
  refine (tableValid_any _ zs0 _ _ _ (HV0_0.out.below BB.out)).mono ?_; rintro e w2 ⟨rfl, hb⟩
  rw [HC0.out]
  have HB2 := hidH (bThen BB.out hb)
  have HG := hidH (HG0.out.below hb)
  have hsz2 := hb.size
  rw [World.size_alloc] at hsz2
  clear hb HV0_0 HR HB1 BB HG0
  have HLL := hidH (rndL_length u 1 zs0)
  have HM := hidH (Blk.made w2 3 zs0.length)
  have hmk := run_make_row' (P := Try.prog) 22 3 (.int .i64 0) 8 Try.underlying22 infoInt rfl .i64 .i64 zs0.length (by omega) (by omega) w2
  have hc1 := HG.out.cell1
  go_wp2_with fail
  go_loopw [31] (fun i wr => ∃ k : Nat, k ≤ zs0.length ∧ i = .int .i64 k ∧ Blk wr w2.heap.size (fill (rndL u 1 zs0) k) ∧ Below w2.heap.size w2 wr) (fun i _ => zs0.length - (intOf i).toNat)
  case atStart => exact ⟨0, Nat.zero_le _, rfl, by have := HM.out; rw [fill_zero, HLL.out]; exact this, (Below.refl _ _).alloc (Nat.le_refl _) _⟩
  case round =>
    obtain ⟨k, hk, rfl, hblk, hb⟩ := hrel
    have HBK := hidH hblk
    have HBq := hidH hb
    clear hblk hb
    have hcr : wr.cell? ⟨w1.heap.size, 1, none⟩ = some (.func (.func 54) #[.int .i64 u] #[]) := by rw [HBq.out.cell (p := ⟨w1.heap.size, 1, none⟩) (by show w1.heap.size < w2.heap.size; omega)]; exact hc1
    by_cases hlt : k < zs0.length
    · obtain ⟨ho, hf⟩ := HBK.out.2 k 0 (fill_at _ _ (by rw [HLL.out]; exact hlt))
      obtain ⟨z, hz⟩ := get_lt zs0 k hlt
      have ⟨z1, z2⟩ := tab_bd HC0.out hz
      have hcz := HCELL.out k z hz
      have hcw : wr.cell? ⟨b0, off0 + k, none⟩ = some (.int .i64 z) := by rw [HBq.out.cell (p := ⟨b0, off0 + k, none⟩) (by show b0 < w2.heap.size; omega), HB2.out.cell (p := ⟨b0, off0 + k, none⟩) hbw0]; exact hcz
      have HGF := hidH (fill_set _ k _ (rndL_get u 1 zs0 k z hz))
      have HST := hidH (HBK.out.set k (rndI z u 1))
      have HCZ := hidH (HC.out z z1 z2)
      clear hcz hz
      go_wp2_with fail
      refine (HCZ.out _).mono ?_; rintro e w9 ⟨rfl, q, rfl⟩
      generalize rndI z u 1 = rz at *
      go_wp2_with fail

      go_roundw
      case rel => exact ⟨k + 1, by omega, by go_num, by rw [← HGF.out]; exact HST.out.drewN q, below_drewN (HBq.out.setCell (Nat.le_refl _) _) q⟩
      case measure => simp [intOf]; omega
    · obtain rfl : k = zs0.length := by omega
      go_wp2_with fail
      go_ret2
      have h := HBK.out
      have e := fill_all (rndL u 1 zs0)
      rw [HLL.out] at e
      rw [e] at h
      exact ⟨_, rfl, h.row (by omega) h.1 (by rw [HLL.out]; exact Nat.le_refl _) (by unfold maxLen; omega) HLL.out.symm, HB2.out.trans (HBq.out.mono HB2.out.size)⟩
set_option maxHeartbeats 1600000 in
theorem roundTable_yes2 (v0 : Value) (zs0 : List Int) (k : Nat) (w : World) (lo0 hi0 : Nat) (hv0 : Lies w lo0 hi0 v0 zs0) (h : tableOk zs0 = true) (k6 : k ≤ 6) : Calls Try.prog 20 #[v0, .int .i64 k, .int .i64 2] w (NewRowB (rndL (tenP k) 2 zs0) true w) := by
  have HV0_0 := hidH hv0
  have ⟨ht1, ht2⟩ := tableOk_len _ h
  have hu : IsUnit (tenP k) := by have := unit_of (k : Int) (by omega) (by omega); rwa [Int.toNat_natCast] at this
  have HR := hidH (roundingOf_yes k 2 k6 (by omega) (by omega) w)
  generalize tenP k = u at *
  rw [show rFun u 2 = .func (.func 55) #[.int .i64 u] #[] from rfl] at HR
  have hst := fun W => store_fun W u (.func (.func 55) #[.int .i64 u] #[]) rfl
  have HC := hidH (fun n n1 n2 W' => even_any u n hu n1 n2 W')
  obtain ⟨b0, off0, cap0, rfl, hlc0, hcm0, hlo0, hhi0, hbw0, hcell0⟩ := hv0.addr (by omega)
  have HCELL := hidH hcell0
  clear hv0 hcell0 hu
  have HC0 := hidH h
  clear h
  unfold maxLen at hcm0
  go_enter Try.func20, Try.ntmps20
  go_wp2_with fail
  refine HR.out.mono ?_; rintro e w1 ⟨rfl, hb⟩
  have HB1 := hidH hb
  have BB := hidH (bMore hb (.cells #[.int .i64 u, .func (.func 55) #[.int .i64 u] #[]] 57))
  have HG0 := hidH (RndAt.fresh w1 u (.func (.func 55) #[.int .i64 u] #[]))
  have hsz1 := hb.size
  clear hb
  go_wp2_with fail
  refine (tableValid_any _ zs0 _ _ _ (HV0_0.out.below BB.out)).mono ?_; rintro e w2 ⟨rfl, hb⟩
  rw [HC0.out]
  have HB2 := hidH (bThen BB.out hb)
  have HG := hidH (HG0.out.below hb)
  have hsz2 := hb.size
  rw [World.size_alloc] at hsz2
  clear hb HV0_0 HR HB1 BB HG0
  have HLL := hidH (rndL_length u 2 zs0)
  have HM := hidH (Blk.made w2 3 zs0.length)
  have hmk := run_make_row' (P := Try.prog) 22 3 (.int .i64 0) 8 Try.underlying22 infoInt rfl .i64 .i64 zs0.length (by omega) (by omega) w2
  have hc1 := HG.out.cell1
  go_wp2_with fail
  go_loopw [31] (fun i wr => ∃ k : Nat, k ≤ zs0.length ∧ i = .int .i64 k ∧ Blk wr w2.heap.size (fill (rndL u 2 zs0) k) ∧ Below w2.heap.size w2 wr) (fun i _ => zs0.length - (intOf i).toNat)
  case atStart => exact ⟨0, Nat.zero_le _, rfl, by have := HM.out; rw [fill_zero, HLL.out]; exact this, (Below.refl _ _).alloc (Nat.le_refl _) _⟩
  case round =>
    obtain ⟨k, hk, rfl, hblk, hb⟩ := hrel
    have HBK := hidH hblk
    have HBq := hidH hb
    clear hblk hb
    have hcr : wr.cell? ⟨w1.heap.size, 1, none⟩ = some (.func (.func 55) #[.int .i64 u] #[]) := by rw [HBq.out.cell (p := ⟨w1.heap.size, 1, none⟩) (by show w1.heap.size < w2.heap.size; omega)]; exact hc1
    by_cases hlt : k < zs0.length
    · obtain ⟨ho, hf⟩ := HBK.out.2 k 0 (fill_at _ _ (by rw [HLL.out]; exact hlt))
      obtain ⟨z, hz⟩ := get_lt zs0 k hlt
      have ⟨z1, z2⟩ := tab_bd HC0.out hz
      have hcz := HCELL.out k z hz
      have hcw : wr.cell? ⟨b0, off0 + k, none⟩ = some (.int .i64 z) := by rw [HBq.out.cell (p := ⟨b0, off0 + k, none⟩) (by show b0 < w2.heap.size; omega), HB2.out.cell (p := ⟨b0, off0 + k, none⟩) hbw0]; exact hcz
      have HGF := hidH (fill_set _ k _ (rndL_get u 2 zs0 k z hz))
      have HST := hidH (HBK.out.set k (rndI z u 2))
      have HCZ := hidH (HC.out z z1 z2)
      clear hcz hz
      go_wp2_with fail
      refine (HCZ.out _).mono ?_; rintro e w9 ⟨rfl, q, rfl⟩
      generalize rndI z u 2 = rz at *
      go_wp2_with fail

      go_roundw
      case rel => exact ⟨k + 1, by omega, by go_num, by rw [← HGF.out]; exact HST.out.drewN q, below_drewN (HBq.out.setCell (Nat.le_refl _) _) q⟩
      case measure => simp [intOf]; omega
    · obtain rfl : k = zs0.length := by omega
      go_wp2_with fail
      go_ret2
      have h := HBK.out
      have e := fill_all (rndL u 2 zs0)
      rw [HLL.out] at e
      rw [e] at h
      exact ⟨_, rfl, h.row (by omega) h.1 (by rw [HLL.out]; exact Nat.le_refl _) (by unfold maxLen; omega) HLL.out.symm, HB2.out.trans (HBq.out.mono HB2.out.size)⟩
theorem roundTable_any (v0 : Value) (zs0 : List Int) (d way : Int) (w : World) (lo0 hi0 : Nat) (hv0 : Lies w lo0 hi0 v0 zs0) : Calls Try.prog 20 #[v0, .int .i64 d, .int .i64 way] w (NewRowB (rtabA zs0 d way) (rtabB zs0 d way) w) := by
  unfold rtabA
  cases h : rtabB zs0 d way
  · exact roundTable_no v0 zs0 d way w lo0 hi0 hv0 h
  · rw [if_pos rfl]
    unfold rtabB at h
    rw [Bool.and_eq_true] at h
    obtain ⟨k, rfl, k6, w0, w2, hu⟩ := wayOk_parts h.2
    rw [Int.toNat_natCast]
    rcases (show way = 0 ∨ way = 1 ∨ way = 2 by omega) with rfl | rfl | rfl
    · exact roundTable_yes0 v0 zs0 k w lo0 hi0 hv0 h.1 k6
    · exact roundTable_yes1 v0 zs0 k w lo0 hi0 hv0 h.1 k6
    · exact roundTable_yes2 v0 zs0 k w lo0 hi0 hv0 h.1 k6
end Go.Proofs.Ytieealgmmkkgoaa
