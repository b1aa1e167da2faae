/-
  The coefficients of powers of a polynomial: the model, whole. No conditions but that slices fit in memory.
-/
import Derived.Test.YtgenniaklpheoaaPolyFh
namespace Go.Proofs.Ytgenniaklpheoaa
open Go.RowKit
def divL (l : List Int) (m : Int) : List Int := l.map fun x => x.tdiv m
theorem divL_length (l : List Int) (m : Int) : (divL l m).length = l.length := by simp [divL]
theorem divL_get (l : List Int) (m : Int) (i : Nat) (x : Int) (h : l[i]? = some x) : (divL l m)[i]? = some (x.tdiv m) := by simp [divL, h]
theorem stair_next (k : Nat) (hk : k ≤ 5) : divL (timesL (stair k) k) ((k : Int) + 1) = stair (k + 1) := by
  have : k = 0 ∨ k = 1 ∨ k = 2 ∨ k = 3 ∨ k = 4 ∨ k = 5 := by omega
  rcases this with rfl | rfl | rfl | rfl | rfl | rfl <;> decide
theorem timesL_bd (c : List Int) (hc : ∀ x ∈ c, x.natAbs ≤ 720) (k : Nat) (hk : k ≤ 6) : ∀ y ∈ timesL c k, y.natAbs ≤ 6000 := fun y hy => by
  obtain ⟨j, _, rfl⟩ := List.mem_map.1 hy
  have h1 := prev_bd c hc j
  have h2 : (c.getD j 0).natAbs ≤ 720 := by
    rw [List.getD_eq_getElem?_getD]
    cases h : c[j]?
    · decide
    · exact hc _ (List.mem_of_getElem? h)
  have h3 := abs_mul_le (a := (k : Int)) (A := 6) (by omega) h2
  omega
theorem powS_snoc (o p : List Int) (x : Int) (k : Nat) : powS o (p ++ [x]) k = addMul x (powS o p k) (stair (k + p.length)) := by
  induction p generalizing o k with
  | nil => rfl
  | cons y p ih => rw [List.cons_append, powS, powS, ih, List.length_cons, show k + 1 + p.length = k + (p.length + 1) by omega]
theorem addMul_get (x : Int) (o s : List Int) (i : Nat) (a c : Int) (ha : o[i]? = some a) (hc : s[i]? = some c) : (addMul x o s)[i]? = some (a + x * c) := by
  induction o generalizing s i with
  | nil => simp at ha
  | cons y o ih =>
    cases s with
    | nil => simp at hc
    | cons z s =>
      cases i with
      | zero => simp at ha hc; subst ha; subst hc; rfl
      | succ i => rw [addMul, List.getElem?_cons_succ]; exact ih s i (by simpa using ha) (by simpa using hc)
theorem over_addMul (x : Int) (o s : List Int) (h : s.length ≤ o.length) : over (addMul x o s) o s.length = addMul x o s := by
  induction o generalizing s with
  | nil =>
    obtain rfl : s = [] := List.eq_nil_of_length_eq_zero (by simpa using h)
    rfl
  | cons y o ih =>
    cases s with
    | nil => rfl
    | cons z s =>
      have := ih s (by simpa using h)
      unfold over at this ⊢
      rw [addMul, List.length_cons, List.take_succ_cons, List.drop_succ_cons, List.cons_append, this]
/-- The sums after some powers. -/
def powAt (zs : List Int) (k : Nat) : List Int := powS (List.replicate zs.length 0) (zs.take k) 0
theorem powAt_length (zs : List Int) (k : Nat) : (powAt zs k).length = zs.length := by rw [powAt, powS_length, List.length_replicate]
theorem powAt_next (zs : List Int) (k : Nat) (x : Int) (h : zs[k]? = some x) : powAt zs (k + 1) = addMul x (powAt zs k) (stair k) := by
  have hk := (List.getElem?_eq_some_iff.1 h).1
  unfold powAt
  rw [List.take_add_one, h, Option.toList_some, powS_snoc, List.length_take, Nat.min_eq_left (by omega), Nat.zero_add]
theorem powAt_bd (zs : List Int) (hs : Small zs) (k : Nat) : ∀ y ∈ powAt zs k, y.natAbs ≤ 504000000 := fun y hy => by
  have h7 := hs.1
  have hl : (zs.take k).length ≤ 7 := by rw [List.length_take]; omega
  have := powS_bd (zs.take k) _ 0 0 (by omega) (fun x hx => by have := hs.2 x (List.mem_of_mem_take hx); omega) (fun y hy => by have := List.eq_of_mem_replicate hy; omega) y hy
  omega
theorem stair_len (k : Nat) (hk : k ≤ 6) : (stair k).length = k + 1 := stair_length k hk
set_option maxHeartbeats 4000000 in
theorem sPow_yes (v : Value) (zs : List Int) (w : World) (lo hi : Nat) (hv : Lies w lo hi v zs) (hz : polyOk zs = true) : Calls Try.prog 28 #[v] w (NewRow (powL zs) w) := by
  have ⟨k1, hs⟩ := polyOk_small _ hz
  have h7 := hs.1
  have HZ := hidH hz
  have HLV := hidH hv
  obtain ⟨b, off, cap, rfl, hlc, hcm, hl1, hh1, hbw, hcell⟩ := hv.addr (by omega)
  unfold maxLen at hcm
  have HC := hidH hcell
  have HS := hidH hs
  clear hcell hs hz hv
  have hmk := run_make_row' (P := Try.prog) 23 3 (.int .i64 0) 8 Try.underlying23 infoInt rfl .i64 .i64 zs.length (by omega) (by omega) w
  have HBK0 := hidH (Blk.made w 3 zs.length)
  have HBA := hidH ((Below.refl w.heap.size w).alloc (Nat.le_refl _) (.cells (madeCells #[Value.int .i64 0] zs.length) 3))
  have hsa : w.heap.size < (w.alloc (.cells (madeCells #[Value.int .i64 0] zs.length) 3)).heap.size := by simp
  generalize hwa : w.alloc (.cells (madeCells #[Value.int .i64 0] zs.length) 3) = wa at *
  clear hwa
  go_enter Try.func28, Try.ntmps28
  go_wp2_with fail
  refine (sPolyValid_any _ zs wa _ _ (HLV.out.below HBA.out)).mono ?_; rintro e w1 ⟨rfl, rfl⟩
  rw [HZ.out]
  have HCK0 := hidH (Blk.lit wa 3 [720])
  have HBB := hidH ((Below.refl wa.heap.size wa).alloc (Nat.le_refl _) (.cells ([720].map (Value.int .i64)).toArray 3))
  go_wp2_with fail
  go_loopw [4, 5] (fun cv i wr => ∃ (k : Nat) (cs : List Int) (cb : Nat), k ≤ zs.length ∧ i = .int .i64 k ∧ cv = .slice (some ⟨cb, 0, none⟩) (k + 1) (k + 1) ∧ cs.length = k + 1 ∧ (k ≤ 6 → cs = stair k) ∧ w.heap.size < cb ∧ Blk wr cb cs ∧ Blk wr w.heap.size (powAt zs k) ∧ Below w.heap.size w wr) (fun _ i _ => zs.length - (intOf i).toNat)
  case atStart =>
    refine ⟨0, [720], wa.heap.size, Nat.zero_le _, rfl, rfl, rfl, fun _ => rfl, hsa, ?_, ?_, ?_⟩
    · exact HCK0.out
    · exact HBK0.out.below HBB.out
    · exact HBA.out.trans (HBB.out.mono (by omega))
  case round =>
    obtain ⟨k, cs, cb, hk, rfl, rfl, hcl, hst, hcb, hcblk, hoblk, hb⟩ := hrel
    have HCK := hidH hcblk
    have HOK := hidH hoblk
    have HBq := hidH hb
    clear hcblk hoblk hb
    by_cases hlt : k < zs.length
    · obtain ⟨wo, rfl⟩ : ∃ wo, wo = wr := ⟨wr, rfl⟩
      obtain rfl := hst (by omega)
      obtain ⟨x, hx⟩ := get_lt zs k hlt
      have hxb := HS.out.2 x (List.mem_of_getElem? hx)
      have HX := hidH (HC.out k x hx)
      have HPN := hidH (powAt_next zs k x hx)
      have HOB := hidH (powAt_bd zs HS.out k)
      have HSB := hidH (stair_bd k (by omega))
      have HOL := hidH (powAt_length zs k)
      have HAL := hidH (addMul_length x (powAt zs k) (stair k))
      have HCL := hidH hcl
      have hcbw := HCK.out.1
      clear hx hcl hst
      generalize hO : powAt zs k = o at *
      clear hO
      go_wp2_with fail
      go_loopw [6] (fun i wr => ∃ j : Nat, j ≤ k + 1 ∧ i = .int .i64 j ∧ Blk wr w.heap.size (over (addMul x o (stair k)) o j) ∧ Onto w.heap.size wo wr) (fun i _ => k + 1 - (intOf i).toNat)
      case atStart => exact ⟨0, Nat.zero_le _, rfl, by rw [over_zero]; exact HOK.out, Onto.refl _ _⟩
      case round =>
        obtain ⟨j, hj, rfl, hblk, ho⟩ := hrel
        have HQ := hidH hblk
        have HO := hidH ho
        clear hblk ho
        by_cases hj2 : j < k + 1
        · obtain ⟨y, hy⟩ := get_lt o j (by have := HOL.out; omega)
          obtain ⟨z, hz⟩ := get_lt (stair k) j (by have := HCL.out; omega)
          have hyb := HOB.out y (List.mem_of_getElem? hy)
          have hzb := HSB.out z (List.mem_of_getElem? hz)
          have hxz := abs_mul_le (a := x) (b := z) (A := 100000) (B := 720) (by omega) hzb
          have HB3 := hidH (HBq.out.trans (HO.out.below (Nat.le_refl _) HBq.out.size))
          have hcx : wr.cell? ⟨b, off + k, none⟩ = some (.int .i64 x) := by rw [HB3.out.cell (p := ⟨b, off + k, none⟩) hbw]; exact HX.out
          have hcc : wr.cell? ⟨cb, j, none⟩ = some (.int .i64 z) := by rw [HO.out.cell (p := ⟨cb, j, none⟩) hcbw (Nat.ne_of_gt hcb)]; exact (HCK.out.2 j z hz).1
          obtain ⟨hco, hfo⟩ := HQ.out.2 j y (by rw [over_get _ _ _ HAL.out (by have := HOL.out; omega)]; exact hy)
          have HG := hidH (over_set _ _ j _ HAL.out (addMul_get x o (stair k) j y z hy hz))
          have v4 : IntKind.i64.wrap (x * z) = x * z := IntWalk.i64_in _ (by omega)
          have v5 : IntKind.i64.wrap (y + x * z) = y + x * z := IntWalk.i64_in _ (by omega)
          have hjl : j < zs.length := by omega
          have hjl2 : (j : Int) < (k : Int) + 1 := by omega
          clear hy hz
          go_wp2_with fail
          go_region
          go_wp2_with fail
          go_roundw
          case rel => exact ⟨j + 1, by omega, by go_num, by rw [← HG.out]; exact (HQ.out.set j _).drewN 1, HO.out.trans ((Onto.setCell w.heap.size j wr _).drewN 1)⟩
          case measure => simp [intOf]; omega
        · obtain rfl : j = k + 1 := by omega
          have HO2 := hidH (show Blk wr w.heap.size (powAt zs (k + 1)) by
            have h := HQ.out
            rw [← HCL.out, over_addMul x o (stair k) (by rw [HCL.out, HOL.out]; omega), ← HPN.out] at h
            exact h)
          have HCQ := hidH (HCK.out.apart (Apart.of_onto HO.out (Nat.le_refl _) (Nat.lt_succ_self _)) (.inr (by omega)))
          have HB3 := hidH (HBq.out.trans (HO.out.below (Nat.le_refl _) HBq.out.size))
          have hwq := HB3.out.size
          have hoq := HO2.out.1
          have HTM := hidH (times_any _ (stair k) k wr 0 wr.heap.size (HCQ.out.row (cap := k + 1) (Nat.zero_le _) HCQ.out.1 (by rw [HCL.out]; exact Nat.le_refl _) (by unfold maxLen; omega) (n := k + 1) HCL.out.symm).lies (by rw [HCL.out]; omega) (by rw [HCL.out]; omega) (by omega) HSB.out)
          have HTB := hidH (timesL_bd (stair k) HSB.out k (by omega))
          have HTL := hidH (show (timesL (stair k) k).length = k + 2 by rw [timesL_length, HCL.out])
          have HNX := hidH (show k + 1 ≤ 6 → divL (timesL (stair k) k) ((k : Int) + 1) = stair (k + 1) from fun h => stair_next k (by omega))
          rw [HCL.out] at HTM
          go_wp2_with fail
          refine HTM.out.mono ?_; rintro e w2 ⟨nb, rfl, hnb, hblk, hb⟩
          have HT2 := hidH hblk
          have HO3 := hidH (HO2.out.below hb)
          have HB4 := hidH (HB3.out.trans (hb.mono hwq))
          have hw2 := hb.size
          clear hblk hb
          generalize timesL (stair k) (k : Int) = T at *
          have HDL := hidH (divL_length T ((k : Int) + 1))
          have HMB := hidH hoq
          clear hoq
          go_wp2_with fail
          go_loopw [7] (fun i wr => ∃ j : Nat, j ≤ k + 2 ∧ i = .int .i64 j ∧ Blk wr nb (over (divL T ((k : Int) + 1)) T j) ∧ Onto nb w2 wr) (fun i _ => k + 2 - (intOf i).toNat)
          case atStart => exact ⟨0, Nat.zero_le _, rfl, by rw [over_zero]; exact HT2.out, Onto.refl _ _⟩
          case round =>
            obtain ⟨j, hj, rfl, hblk, ho⟩ := hrel
            have HQ3 := hidH hblk
            have HO4 := hidH ho
            clear hblk ho
            by_cases hj3 : j < k + 2
            · obtain ⟨t, ht⟩ := get_lt T j (by have := HTL.out; omega)
              have htb := HTB.out t (List.mem_of_getElem? ht)
              obtain ⟨hct, hft⟩ := HQ3.out.2 j t (by rw [over_get _ _ _ HDL.out (by have := HTL.out; omega)]; exact ht)
              have HG3 := hidH (over_set _ _ j _ HDL.out (divL_get T ((k : Int) + 1) j t ht))
              have hdb : (t.tdiv ((k : Int) + 1)).natAbs ≤ 6000 := by rw [Int.natAbs_tdiv]; exact Nat.le_trans (Nat.div_le_self _ _) htb
              have v6 : IntKind.i64.wrap (t.tdiv ((k : Int) + 1)) = t.tdiv ((k : Int) + 1) := IntWalk.i64_in _ (by omega)
              have v7 : wrap64 (t.tdiv ((k : Int) + 1)) = t.tdiv ((k : Int) + 1) := by rw [← wrap_i]; exact v6
              have hkz : ((k : Int) + 1 == 0) = false := beq_eq_false_iff_ne.2 (by omega)
              have hj4 : (j : Int) < (k : Int) + 1 + 1 := by omega
              have hj5 : j < k + 1 + 1 := by omega
              clear ht
              go_wp2_with fail
              go_roundw
              case rel => exact ⟨j + 1, by omega, by go_num, by rw [← HG3.out]; exact HQ3.out.set j _, HO4.out.trans (Onto.setCell nb j wr _)⟩
              case measure => simp [intOf]; omega
            · obtain rfl : j = k + 2 := by omega
              have HD4 := hidH (show Blk wr nb (divL T ((k : Int) + 1)) by
                have h := HQ3.out
                rw [← HTL.out, over_all _ _ HDL.out] at h
                exact h)
              have hnb2 : w.heap.size < nb := by have := HMB.out; omega
              have HO5 := hidH (HO3.out.apart (Apart.of_onto HO4.out (Nat.le_refl _) (Nat.lt_succ_self _)) (.inl hnb2))
              have HB5 := hidH (HB4.out.trans (HO4.out.below (Nat.le_of_lt hnb2) HB4.out.size))
              have HL5 := hidH (show (divL T ((k : Int) + 1)).length = k + 1 + 1 by rw [HDL.out, HTL.out])
              go_wp2_with fail
              go_roundw
              case rel => exact ⟨k + 1, divL T ((k : Int) + 1), nb, by omega, by go_num, rfl, HL5.out, HNX.out, hnb2, HD4.out, HO5.out, HB5.out⟩
              case measure => simp [intOf]; omega
    · obtain rfl : k = zs.length := by omega
      go_wp2_with fail
      go_ret
      have h := HOK.out
      have e : powAt zs zs.length = powL zs := by unfold powAt powL; rw [List.take_length]
      rw [e] at h
      exact ⟨_, rfl, h.row (Nat.le_refl _) h.1 (by rw [powL_length]; exact Nat.le_refl _) (by unfold maxLen; omega) (powL_length _).symm, HBq.out⟩
set_option maxHeartbeats 800000 in
theorem sPow_no (v : Value) (zs : List Int) (w : World) (lo hi : Nat) (hv : Lies w lo hi v zs) (hn : zs.length ≤ 1048576) (hz : polyOk zs = false) : Calls Try.prog 28 #[v] w (NewRow [] w) := by
  have HZ := hidH hz
  have HLV := hidH hv
  obtain ⟨a, cap, rfl, hlc, hcm, hnil, hcell⟩ := hv
  unfold maxLen at hcm
  clear hnil hcell hz
  have hmk := run_make_row' (P := Try.prog) 23 3 (.int .i64 0) 8 Try.underlying23 infoInt rfl .i64 .i64 zs.length (by omega) (by omega) w
  have HBA := hidH ((Below.refl w.heap.size w).alloc (Nat.le_refl _) (.cells (madeCells #[Value.int .i64 0] zs.length) 3))
  generalize hwa : w.alloc (.cells (madeCells #[Value.int .i64 0] zs.length) 3) = wa at *
  clear hwa
  go_enter Try.func28, Try.ntmps28
  go_wp2_with fail
  refine (sPolyValid_any _ zs wa _ _ (HLV.out.below HBA.out)).mono ?_; rintro e w1 ⟨rfl, rfl⟩
  rw [HZ.out]
  go_wp2_with fail
  go_ret
  exact ⟨_, rfl, Row.nil _ _ _ _ _ (Nat.zero_le _) (fun _ => rfl), HBA.out.trans (((Below.refl _ _).alloc (Nat.le_refl _) _).mono HBA.out.size)⟩
theorem sPow_any (v : Value) (zs : List Int) (w : World) (lo hi : Nat) (hv : Lies w lo hi v zs) (hn : zs.length ≤ 1048576) : Calls Try.prog 28 #[v] w (NewRow (powA zs) w) := by
  unfold powA
  cases h : polyOk zs
  · exact sPow_no v zs w lo hi hv hn h
  · exact sPow_yes v zs w lo hi hv h
theorem powA_len (zs : List Int) : (powA zs).length ≤ 1048576 := by
  unfold powA
  split
  · rename_i h
    have := (polyOk_small _ h).2.1
    rw [powL_length]; omega
  · simp
end Go.Proofs.Ytgenniaklpheoaa
