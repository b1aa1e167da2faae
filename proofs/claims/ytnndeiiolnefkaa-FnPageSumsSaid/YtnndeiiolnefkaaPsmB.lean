/-
  PageSums: the program, at every argument. No conditions but that slices fit in memory.
-/
import Derived.Test.YtnndeiiolnefkaaPsmA
import Derived.Test.YtnndeiiolnefkaaPlcB
namespace Go.Proofs.Ytnndeiiolnefkaa
set_option maxRecDepth 4000
open Go.RowKit
theorem pageSums_no (R A W : Int) (v : Value) (vs : List Int) (page : Int) (w : World) (lo hi : Nat) (hv : Lies w lo hi v vs) (h : pgOk R A W vs page = false) : Calls Try.prog 28 #[layV R A W, v, .int .i64 page] w (NewRow [] w) := by
  have HV := hidH hv
  have HE := hidH (fun W' (hl : Lies W' lo hi v vs) => entriesOn_no R A W v vs page W' lo hi hl h)
  have B0 := hidH (bMore (Below.refl w.heap.size w) (layC R A W))
  clear hv h
  unfold layV layC at *
  go_enter Try.func28, Try.ntmps28
  go_wp2_with fail
  refine (HE.out _ (HV.out.below B0.out)).mono ?_; rintro e w1 ⟨u, rfl, hr, hb⟩
  have B1 := hidH (bThen B0.out hb)
  clear hb hr
  go_wp2_with fail
  go_ret
  exact ⟨_, rfl, Row.nil _ _ _ _ _ (Nat.zero_le _) (fun _ => rfl), B1.out⟩
theorem plC_page (rn an : Nat) (W : Int) (i : Nat) (hl : layOk rn an W = true) (h60 : i < 60) (hP : i < an * rn) : plB rn an W i = true ∧ plC rn an W i = ((i / rn : Nat) : Int) ∧ i / rn < an := by
  have hb : plB rn an W i = true := by
    unfold plB idxOk
    rw [hl, decide_eq_true (show (0 : Int) ≤ (i : Int) ∧ (i : Int) ≤ 59 by omega)]; rfl
  refine ⟨hb, ?_, Nat.div_lt_of_lt_mul (by rw [Nat.mul_comm]; exact hP)⟩
  unfold plC
  rw [hb, if_pos rfl]
  have hc : ((an * rn : Nat) : Int) = (an : Int) * (rn : Int) := by simp
  have : (i : Int) % ((an : Int) * (rn : Int)) = (i : Int) := Int.emod_eq_of_lt (by omega) (by rw [← hc]; omega)
  rw [this]
  rfl
set_option maxHeartbeats 1600000 in
theorem pageSums_yes (rn an pn : Nat) (W : Int) (v : Value) (vs : List Int) (w : World) (lo hi : Nat) (hv : Lies w lo hi v vs) (hhi : hi ≤ w.heap.size) (h : pgOk rn an W vs pn = true) : Calls Try.prog 28 #[layV rn an W, v, .int .i64 pn] w (NewRow (psL rn an pn vs) w) := by
  have HV := hidH hv
  have HEN := hidH (fun W' (hl : Lies W' lo hi v vs) (hhi : hi ≤ W'.heap.size) => entriesOn_yes rn an pn W v vs W' lo hi hl hhi h)
  have B0 := hidH (bMore (Below.refl w.heap.size w) (layC rn an W))
  have L0 := hidH (LayAt.fresh w rn an W)
  obtain ⟨ht, hl, rn', an', pn', e1, e2, e3, hr1, hr2, ha1, ha2, hlt, hp59, hP1, hP2, hpa⟩ := pgOk_parts _ _ _ _ _ h
  obtain rfl : rn = rn' := by omega
  obtain rfl : an = an' := by omega
  obtain rfl : pn = pn' := by omega
  have HT := hidH ht
  have ⟨_, t60, htb⟩ := (listOk_iff _ _ _).1 ht
  have hEl := pgE_length rn an pn vs
  have hEb := hidH (fun x (hx : x ∈ pgE rn an pn vs) => htb x (pgE_mem hx))
  have hE1 : (pgE rn an pn vs).length ≤ 60 := by omega
  have hEP : (pgE rn an pn vs).length ≤ an * rn := by omega
  have hE0 : 1 ≤ (pgE rn an pn vs).length := by omega
  have HPC := hidH (fun (i : Nat) (h60 : i < 60) (hP : i < an * rn) => plC_page rn an W i hl h60 hP)
  have HPO := hidH (fun (k : Int) W' => placeOf_any rn an W k W')
  have HPSL := hidH (show psL rn an pn vs = sumsAt (pgE rn an pn vs) rn an (pgE rn an pn vs).length from rfl)
  rw [HPSL.out]
  clear e1 e2 e3 hv h ht hl hlt hP1 hP2 hpa htb hEl hp59 HPSL t60
  generalize pgE rn an pn vs = E at *
  have hEPh := hidH hEP
  clear hEP
  have HSL := hidH (fun i => sumsAt_length E rn an i)
  unfold layV layC at *
  go_enter Try.func28, Try.ntmps28
  go_wp2_with fail
  refine (HEN.out _ (HV.out.below B0.out) (by simp; omega)).mono ?_; rintro e w1 ⟨u, rfl, hr, hb⟩
  have B1 := hidH (bThen B0.out hb)
  have hL := (show LayAt _ w.heap.size rn an W from L0.out).below hb
  obtain ⟨b1, off1, cap1, rfl, hlc1, hcm1, _, _, hbw1, hcell1⟩ := hr.addr (by omega)
  unfold maxLen at hcm1
  have HC1 := hidH hcell1
  have c0 := hL.cell0
  have c1 := hL.cell1
  have c2 := hL.cell2
  have hls := hL.lt
  have HL1 := hidH hL
  clear hb hr hcell1 hL HEN L0 B0
  have HM := hidH (Blk.made w1 3 an)
  have hmk := run_make_row' (P := Try.prog) 30 3 (.int .i64 0) 8 Try.underlying30 infoInt rfl .i64 .i64 an (by omega) (by omega) w1
  go_wp2_with fail
  clear c0 c1 c2
  go_loopw [30] (fun i wr => ∃ k : Nat, k ≤ E.length ∧ i = .int .i64 k ∧ Blk wr w1.heap.size (sumsAt E rn an k) ∧ Below w1.heap.size w1 wr) (fun i _ => E.length - (intOf i).toNat)
  case atStart => exact ⟨0, Nat.zero_le _, rfl, by rw [sumsAt_zero]; exact HM.out, (Below.refl _ _).alloc (Nat.le_refl _) _⟩
  case round =>
    obtain ⟨k, hk, rfl, hblk, hb⟩ := hrel
    have HBK := hidH hblk
    have HBq := hidH hb
    clear hblk hb
    by_cases hlt : k < E.length
    · obtain ⟨z, hz⟩ := get_lt E k hlt
      have hcz := HC1.out k z hz
      have hcw : wr.cell? ⟨b1, off1 + k, none⟩ = some (.int .i64 z) := by rw [HBq.out.cell (p := ⟨b1, off1 + k, none⟩) hbw1]; exact hcz
      have hL := HL1.out.below HBq.out
      have c0 := hL.cell0
      have c1 := hL.cell1
      have c2 := hL.cell2
      have ⟨q1, q2, q3⟩ := HPC.out k (by omega) (by have := hEPh.out; omega)
      have HZ := hidH (sumsAt_step E rn an k z hr1 hz)
      have hgk := sumsAt_get E rn an k (k / rn) q3
      have ⟨g1, g2⟩ := colAt_bd E rn (k / rn) k hEb.out hr2
      have ⟨z1, z2⟩ := hEb.out z (List.mem_of_getElem? hz)
      have HQ := hidH (HPO.out k)
      rw [q1, q2] at HQ
      clear q1 q2 hz hcz hL
      generalize hc : k / rn = c at *
      generalize colAt E rn c k = s at *
      clear hc
      go_wp2_with fail
      refine (HQ.out _).mono ?_; rintro e w2 ⟨rfl, hb⟩
      have HBK2 := hidH (HBK.out.below hb)
      have HBq2 := hidH (bThen HBq.out hb)
      obtain ⟨ho, hf⟩ := HBK2.out.2 c s hgk
      have HST := hidH (HBK2.out.set c (s + z))
      clear hb c0 c1 c2 hcw hgk HQ
      go_wp2_with fail
      go_roundw
      case rel => exact ⟨k + 1, by omega, by go_num, by rw [HZ.out]; exact HST.out, HBq2.out.setCell (Nat.le_refl _) _⟩
      case measure => simp [intOf]; omega
    · obtain rfl : k = E.length := by omega
      go_wp2_with fail
      go_ret
      have h := HBK.out
      exact ⟨_, rfl, h.row (by omega) h.1 (by rw [HSL.out]; exact Nat.le_refl _) (by unfold maxLen; omega) (HSL.out _).symm, bThen B1.out HBq.out⟩
theorem pageSums_any (R A W : Int) (v : Value) (vs : List Int) (page : Int) (w : World) (lo hi : Nat) (hv : Lies w lo hi v vs) (hhi : hi ≤ w.heap.size) : Calls Try.prog 28 #[layV R A W, v, .int .i64 page] w (NewRow (psA R A W vs page) w) := by
  unfold psA
  cases h : pgOk R A W vs page
  · exact pageSums_no R A W v vs page w lo hi hv h
  · rw [if_pos rfl]
    obtain ⟨_, _, rn, an, pn, rfl, rfl, rfl, _⟩ := pgOk_parts R A W vs page h
    rw [Int.toNat_natCast, Int.toNat_natCast, Int.toNat_natCast]
    exact pageSums_yes rn an pn W v vs w lo hi hv hhi h
end Go.Proofs.Ytnndeiiolnefkaa
