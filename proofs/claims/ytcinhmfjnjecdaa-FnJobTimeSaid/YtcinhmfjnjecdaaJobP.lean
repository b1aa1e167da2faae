/-
  The law of JobTime: its mathematics, and the draw of its job. No conditions but that the bytes that came in can be read.
-/
import Derived.Test.YtcinhmfjnjecdaaJobO
namespace Go.Proofs.Ytcinhmfjnjecdaa
set_option maxRecDepth 4000
open Go.RowKit
theorem vals_head (p : List Int) (n : Int) (k : Nat) : ∃ r, vals p n (k + 1) = evP p (n + ((0 : Nat) : Int)) :: r := by
  unfold vals
  rw [List.range_succ_eq_map, List.map_cons]
  exact ⟨_, rfl⟩
theorem vals_single (p : List Int) (n : Int) : vals p n 1 = [evP p (n + ((0 : Nat) : Int))] := rfl
/-- A job that an engine can do can be done for one value. -/
theorem cap_one {zs : List Int} {F Wd C : Int} (h : capA zs F Wd C = C) (h1 : 1 ≤ C) : capA zs F Wd 1 = 1 ∧ (1 ≤ Wd ∧ Wd ≤ 12) ∧ polyOk zs = true := by
  have hb : (valuesB zs F C && decide (1 ≤ Wd ∧ Wd ≤ 12)) = true := by
    cases e : (valuesB zs F C && decide (1 ≤ Wd ∧ Wd ≤ 12))
    · rw [capA_no _ _ _ _ e] at h; omega
    · rfl
  rw [capA_yes _ _ _ _ hb] at h
  rw [Bool.and_eq_true, decide_eq_true_eq] at hb
  obtain ⟨hv, hw⟩ := hb
  have hv' := hv
  unfold valuesB at hv'
  rw [Bool.and_eq_true, Bool.and_eq_true] at hv'
  obtain ⟨⟨hp, hi⟩, hk⟩ := hv'
  unfold valsOk at hk
  rw [decide_eq_true_eq] at hk
  have hk1 : valsOk F 1 = true := decide_eq_true (by omega)
  have hv1 : valuesB zs F 1 = true := by unfold valuesB; rw [hp, hi, hk1]; rfl
  have hA : valuesA zs F C = vals zs F C.toNat := by
    unfold valuesA; unfold valuesB at hv; rw [hv]; rfl
  have hA1 : valuesA zs F 1 = vals zs F 1 := by
    unfold valuesA; unfold valuesB at hv1; rw [hv1]; rfl
  refine ⟨?_, hw, hp⟩
  rw [capA_yes _ _ _ _ (by rw [hv1, decide_eq_true hw]; rfl), hA1, vals_single]
  rw [hA] at h
  obtain ⟨k, hk⟩ : ∃ k, C.toNat = k + 1 := ⟨C.toNat - 1, by omega⟩
  rw [hk] at h
  obtain ⟨r, hr⟩ := vals_head zs F k
  rw [hr] at h
  cases hf : fits (evP zs (F + ((0 : Nat) : Int))) Wd.toNat
  · simp only [capTo, hf] at h
    simp at h
    omega
  · simp only [capTo, hf]
    rfl
/-- The time of a job that is valid, and of the same job for one value. -/
theorem jobT_law {zs : List Int} {F C Wd D Wy R A Wi : Int} (h : jobOk zs F C Wd D Wy R A Wi = true) : (1 ≤ C ∧ C ≤ 60) ∧ (0 ≤ (zs.length : Int) * Wd ∧ (zs.length : Int) * Wd ≤ 84) ∧ jobT zs F C Wd D Wy R A Wi = (zs.length : Int) * Wd + C ∧ jobT zs F 1 Wd D Wy R A Wi = (zs.length : Int) * Wd + 1 := by
  have h' := h
  unfold jobOk at h
  rw [Bool.and_eq_true, Bool.and_eq_true, Bool.and_eq_true, Bool.and_eq_true, decide_eq_true_eq, beq_iff_eq] at h
  obtain ⟨hs, hw, hc, hq, hl⟩ := h
  obtain ⟨hq1, hW, hp⟩ := cap_one hq hc.1
  have hn := ((listOk_iff 7 100000 zs).1 hp).2.1
  have hm0 : 0 ≤ (zs.length : Int) * Wd := Int.mul_nonneg (by omega) (by omega)
  have hm1 : (zs.length : Int) * Wd ≤ 7 * 12 := Int.mul_le_mul (by omega) (by omega) (by omega) (by omega)
  have h1' : jobOk zs F 1 Wd D Wy R A Wi = true := by
    unfold jobOk
    rw [hs, hw, hq1, hl]
    rfl
  unfold jobT
  rw [h', h1', if_pos rfl, if_pos rfl]
  generalize (zs.length : Int) * Wd = M at *
  have e0 : wrap64 M = M := IntWalk.wrap64_in _ (by omega)
  have e1 : wrap64 (M + C) = M + C := IntWalk.wrap64_in _ (by omega)
  have e2 : wrap64 (M + 1) = M + 1 := IntWalk.wrap64_in _ (by omega)
  rw [e0, e1, e2]
  exact ⟨hc, ⟨hm0, by omega⟩, rfl, rfl⟩
theorem jobT_no {zs : List Int} {F C Wd D Wy R A Wi : Int} (h : jobOk zs F C Wd D Wy R A Wi = false) : jobT zs F C Wd D Wy R A Wi = -1 := by unfold jobT; rw [h]; rfl
set_option maxHeartbeats 1600000 in
theorem drawJobTime (a : Option Addr) (len cap : Nat) (w : World) (hc : Came w a len cap) (hl : len ≤ 1048576) : Calls Try.prog 22 #[.slice a len cap] w (DrawJ w) := by
  have B0 := hidH (bMore (Below.refl w.heap.size w) (.cells #[.slice none 0 0, .int .i64 0, .int .i64 0, .int .i64 0, .int .i64 0, .int .i64 0, .int .i64 0, .int .i64 0, .int .i64 0] 38))
  have T0 := hidH (show JobAt (w.alloc (.cells #[.slice none 0 0, .int .i64 0, .int .i64 0, .int .i64 0, .int .i64 0, .int .i64 0, .int .i64 0, .int .i64 0, .int .i64 0] 38)) w.heap.size 38 #[.slice none 0 0, .int .i64 0, .int .i64 0, .int .i64 0, .int .i64 0, .int .i64 0, .int .i64 0, .int .i64 0, .int .i64 0] from heap_alloc_new w _)
  have z0 : (w.alloc (.cells #[.slice none 0 0, .int .i64 0, .int .i64 0, .int .i64 0, .int .i64 0, .int .i64 0, .int .i64 0, .int .i64 0, .int .i64 0] 38)).heap.size = w.heap.size + 1 := by simp
  have HO := hidH (drawJobValid a len cap (w.alloc (.cells #[.slice none 0 0, .int .i64 0, .int .i64 0, .int .i64 0, .int .i64 0, .int .i64 0, .int .i64 0, .int .i64 0, .int .i64 0] 38)) (came_belowJ hc B0.out) hl)
  clear hc
  go_enter Try.func22, Try.ntmps22
  go_wp2_with fail
  refine HO.out.mono ?_; rintro e w3 ⟨v, ys, F2, C2, Wd2, D2, Wy2, R2', A2, Wi2, rfl, hrow, h8, hB⟩
  have X3 := hidH hrow
  have s3 := hB.size
  have T3 := hidH (T0.out.below hB)
  have B3 := hidH (bThen B0.out hB)
  clear hrow hB HO T0 B0
  have SZ := hidH (job_size v F2 C2 Wd2 D2 Wy2 R2' A2 Wi2)
  unfold jobV
  unfold jobC at *
  go_wp2_with (refine wpList_store_row rfl 38 _ _ rfl w.heap.size #[v, .int .i64 F2, .int .i64 C2, .int .i64 Wd2, .int .i64 D2, .int .i64 Wy2, .int .i64 R2', .int .i64 A2, .int .i64 Wi2] rfl rfl 38 _ T3.out SZ.out rfl (by obtain ⟨va, vc, rfl⟩ := X3.out.lies.someJ; simp [Value.oneCell']) ?_)
  refine bodyPost_ret (results_cell_row Try.results22 _ _ w.heap.size 38 _ (0, 0) _ rfl (T3.out.setRow _) Try.underlying38 rfl SZ.out) rfl ?_
  exact ⟨v, ys, F2, C2, Wd2, D2, Wy2, R2', A2, Wi2, rfl, (X3.out.apart (Apart.of_onto (lo := w.heap.size) (hi := w.heap.size + 1) (ontoRow w.heap.size _ _) (Nat.le_refl _) (Nat.lt_succ_self _)) (.inr (by omega))).mono (by omega) (by simp [World.setRow]), h8, bRow B3.out (Nat.le_refl _) _⟩
end Go.Proofs.Ytcinhmfjnjecdaa
