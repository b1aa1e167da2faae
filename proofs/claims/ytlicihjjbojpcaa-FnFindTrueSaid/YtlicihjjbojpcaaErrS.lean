/-
  The syndrome of a row: the program. No conditions but bounds of numbers.
-/
import Derived.Test.YtlicihjjbojpcaaErrO
import Derived.Test.YtlicihjjbojpcaaErrP
import Derived.Test.YtlicihjjbojpcaaErrN
import Derived.Test.YtlicihjjbojpcaaErrT
import Derived.Test.YtlicihjjbojpcaaErrE
import Derived.StillTailTactics
namespace Go.Proofs.Ytlicihjjbojpcaa
set_option maxRecDepth 4000
open Go.RowKit
theorem synd_size (a b c : Value) : (Try.prog.info? 65).map (·.size) = some (#[a, b, c] : Array Value).size := by
  rw [show (#[a, b, c] : Array Value).size = 3 from rfl]
  kernel_rfl
theorem row_setRow {w : World} {b t : Nat} {old : Array Value} (h : w.heap[b]? = some (.cells old t (0, 0))) (cs : Array Value) : (w.setRow b cs).heap[b]? = some (.cells cs t (0, 0)) := by
  simp [World.setRow, Array.getElem?_modify, h]
theorem bRow {a w : World} (h : Below a.heap.size a w) {b : Nat} (hb : a.heap.size ≤ b) (cs : Array Value) : Below a.heap.size a (w.setRow b cs) :=
  ⟨h.os, h.tape, h.output, by simpa using h.size, fun k hk => by rw [setRow_other w b k cs (by omega)]; exact h.block k hk⟩
theorem bMore {a w : World} (h : Below a.heap.size a w) (o : Obj) : Below a.heap.size a (w.alloc o) := h.alloc h.size o
set_option maxHeartbeats 1600000 in
theorem synd_any (v : Value) (row : List Int) (w : World) (lo hi : Nat) (hv : Lies w lo hi v row) (hn : row.length ≤ 60) (h2 : 2 ≤ row.length) (hnz : fnz row < row.length) (hbd : ∀ x ∈ row, x.natAbs ≤ 1000000000000) : Calls Try.prog 42 #[v] w (Gives (synV (synL row)) w) := by
  have HV := hidH hv
  have HNZ := hidH (show nzI row = (fnz row : Int) from if_pos hnz)
  obtain ⟨b, off, cap, rfl, hlc, hcm, _, _, hbw, hcell⟩ := hv.addr (by omega)
  unfold maxLen at hcm
  have hk : synAt row + 1 < row.length := by unfold synAt; omega
  obtain ⟨x, hx⟩ := get_lt row (synAt row) (by omega)
  obtain ⟨y, hy⟩ := get_lt row (synAt row + 1) hk
  have hxb := hbd x (List.mem_of_getElem? hx)
  have hyb := hbd y (List.mem_of_getElem? hy)
  have HXY := hidH (syn_nz row h2 hnz)
  rw [show synX row = x from getD_of hx, show synY row = y from getD_of hy] at HXY
  have HS := hidH (show synL row = (synAt row, synP x y) by rw [synL, show synX row = x from getD_of hx, show synY row = y from getD_of hy])
  rw [HS.out]
  have HCX := hidH (hcell _ x hx)
  have HCY := hidH (hcell _ y hy)
  have HG := hidH (fun w => gcd_any x y hxb hyb w)
  have HM := hidH (show synAt row = fnz row ∧ synAt row ≤ row.length - 2 ∨ synAt row = row.length - 2 ∧ row.length - 2 < fnz row by unfold synAt; omega)
  clear hv hcell hx hy
  have hl2 : (row.length : Int) - 2 = ((row.length - 2 : Nat) : Int) := by omega
  generalize synAt row = k at *
  have HW := hidH (Below.refl w.heap.size w)
  by_cases hng : orI x y < 0
  · rcases HM.out with ⟨hm1, hm2⟩ | ⟨hm1, hm2⟩
    · have hd : divI x y = -((Int.gcd x y : Nat) : Int) := by unfold divI; exact if_pos hng
      have HP := hidH (show synP x y = (-(x.tdiv ((Int.gcd x y : Nat) : Int)), -(y.tdiv ((Int.gcd x y : Nat) : Int))) by rw [synP, hd, Int.tdiv_neg, Int.tdiv_neg])
      have hdz := divI_pos x y HXY.out
      rw [hd] at hdz
      rw [HP.out]
      have hgb : ((Int.gcd x y : Nat) : Int) ≤ 1000000000000 := by
        rcases HXY.out with h | h
        · have := Int.gcd_le_natAbs_left y h; omega
        · have := Int.gcd_le_natAbs_right x h; omega
      have hg0 : 0 ≤ ((Int.gcd x y : Nat) : Int) := Int.natCast_nonneg _
      clear hd HP
      generalize ((Int.gcd x y : Nat) : Int) = g at *
      have hgz : (-g != 0) = true := bne_iff_ne.2 hdz
      have hgz2 : (-g == 0) = false := beq_eq_false_iff_ne.2 hdz
      have hx1 : (x.tdiv g).natAbs ≤ 1000000000000 := by rw [Int.natAbs_tdiv]; exact Nat.le_trans (Nat.div_le_self _ _) hxb
      have hy1 : (y.tdiv g).natAbs ≤ 1000000000000 := by rw [Int.natAbs_tdiv]; exact Nat.le_trans (Nat.div_le_self _ _) hyb
      have hx2 : -1000000000000 ≤ x.tdiv g ∧ x.tdiv g ≤ 1000000000000 := by omega
      have hy2 : -1000000000000 ≤ y.tdiv g ∧ y.tdiv g ≤ 1000000000000 := by omega
      have HWX := hidH (show IntKind.i64.wrap (-(x.tdiv g)) = -(x.tdiv g) from IntWalk.i64_in _ (by omega))
      have HWY := hidH (show IntKind.i64.wrap (-(y.tdiv g)) = -(y.tdiv g) from IntWalk.i64_in _ (by omega))
      clear hx1 hy1
      have hmn : k ≤ row.length - 2 := hm2
      have HNZ2 := hidH (show nzI row = (k : Int) by rw [HNZ.out, hm1])
      clear HNZ hm1 hm2
      go_enter Try.func42, Try.ntmps42
      go_wp2_with fail
      have HB1 := hidH (show Below w.heap.size w _ from (HW.out.alloc (Nat.le_refl _) (.cells #[.int .i64 0, .int .i64 0, .int .i64 0] 65)))
      have HZ1 := hidH (heap_alloc_new w (.cells #[.int .i64 0, .int .i64 0, .int .i64 0] 65))
      refine (indexNz4 _ row _ _ _ (HV.out.below HB1.out)).mono ?_; rintro e w2 ⟨rfl, rfl⟩
      rw [HNZ2.out]
      generalize w.alloc (.cells #[.int .i64 0, .int .i64 0, .int .i64 0] 65) = w1 at *
      have HX1 := hidH (show w1.cell? ⟨b, off + k, none⟩ = some (.int .i64 x) by rw [HB1.out.cell (p := ⟨b, off + k, none⟩) hbw]; exact HCX.out)
      have HY1 := hidH (show w1.cell? ⟨b, off + (k + 1), none⟩ = some (.int .i64 y) by rw [HB1.out.cell (p := ⟨b, off + (k + 1), none⟩) hbw]; exact HCY.out)
      have hcx := HX1.out
      have hcy := HY1.out
      have hwk : IntKind.i64.wrap (((k : Nat) : Int) + 1) = ((k + 1 : Nat) : Int) := by rw [show ((k : Nat) : Int) + 1 = ((k + 1 : Nat) : Int) by omega]; exact IntWalk.i64_in _ (by omega)
      go_wp2_with fail
      go_region
      go_wp2_with fail
      refine (HG.out _).mono ?_; rintro e w2 ⟨rfl, q, rfl⟩
      have HB2 := hidH (show Below w.heap.size w (w1.drew.drewN q) from below_drewN (below_drewN HB1.out 1) q)
      have HZ2 := hidH (show (w1.drew.drewN q).heap[w.heap.size]? = some (.cells #[.int .i64 0, .int .i64 0, .int .i64 0] 65 (0, 0)) from HZ1.out)
      have hs2 := HB2.out.size
      clear hcx hcy HX1 HY1 HB1 HZ1
      generalize w1.drew.drewN q = w2 at *
      have HOR := hidH (or_any _ x y _ 0 (w2.heap.size + 1) ((Blk.lit w2 3 [x, y]).row (cap := 2) (n := 2) (Nat.zero_le _) (Nat.lt_succ_self _) (Nat.le_refl _) (by unfold maxLen; omega) rfl).lies)
      generalize orI x y = s at *
      go_wp2_with fail
      refine HOR.out.mono ?_; rintro e w3 ⟨rfl, rfl⟩
      have HB3 := hidH (bMore HB2.out (.cells #[.int .i64 x, .int .i64 y] 3))
      have HZ3 := hidH (show (w2.alloc (.cells #[.int .i64 x, .int .i64 y] 3)).heap[w.heap.size]? = some (.cells #[.int .i64 0, .int .i64 0, .int .i64 0] 65 (0, 0)) by
        rw [heap_alloc_old w2 _ (Array.getElem?_eq_some_iff.1 HZ2.out).1]; exact HZ2.out)
      clear HB2 HZ2
      go_wp2_with fail
      go_still_tail 8, (by kernel_rfl)
      change wpList _ _ _ _ _ (w2.alloc (.cells #[.int .i64 x, .int .i64 y] 3)).drew
      have HB4 := hidH (HB3.out.drew)
      have HZ4 := hidH (show (w2.alloc (.cells #[.int .i64 x, .int .i64 y] 3)).drew.heap[w.heap.size]? = some (.cells #[.int .i64 0, .int .i64 0, .int .i64 0] 65 (0, 0)) from HZ3.out)
      clear HB3 HZ3
      generalize (w2.alloc (.cells #[.int .i64 x, .int .i64 y] 3)).drew = w4 at *
      go_wp2_with (refine wpList_store_row rfl 65 _ _ rfl w.heap.size _ rfl rfl 65 _ HZ4.out (synd_size _ _ _) rfl (by simp [Value.oneCell']) ?_)
      refine bodyPost_ret (results_cell_row Try.results42 _ _ w.heap.size 65 _ (0, 0) _ rfl (row_setRow HZ4.out _) Try.underlying65 rfl (synd_size _ _ _)) rfl ?_
      exact ⟨by first | rfl | (rw [HWX.out, HWY.out]; rfl), bRow HB4.out (Nat.le_refl _) _⟩
    · have hd : divI x y = -((Int.gcd x y : Nat) : Int) := by unfold divI; exact if_pos hng
      have HP := hidH (show synP x y = (-(x.tdiv ((Int.gcd x y : Nat) : Int)), -(y.tdiv ((Int.gcd x y : Nat) : Int))) by rw [synP, hd, Int.tdiv_neg, Int.tdiv_neg])
      have hdz := divI_pos x y HXY.out
      rw [hd] at hdz
      rw [HP.out]
      have hgb : ((Int.gcd x y : Nat) : Int) ≤ 1000000000000 := by
        rcases HXY.out with h | h
        · have := Int.gcd_le_natAbs_left y h; omega
        · have := Int.gcd_le_natAbs_right x h; omega
      have hg0 : 0 ≤ ((Int.gcd x y : Nat) : Int) := Int.natCast_nonneg _
      clear hd HP
      generalize ((Int.gcd x y : Nat) : Int) = g at *
      have hgz : (-g != 0) = true := bne_iff_ne.2 hdz
      have hgz2 : (-g == 0) = false := beq_eq_false_iff_ne.2 hdz
      have hx1 : (x.tdiv g).natAbs ≤ 1000000000000 := by rw [Int.natAbs_tdiv]; exact Nat.le_trans (Nat.div_le_self _ _) hxb
      have hy1 : (y.tdiv g).natAbs ≤ 1000000000000 := by rw [Int.natAbs_tdiv]; exact Nat.le_trans (Nat.div_le_self _ _) hyb
      have hx2 : -1000000000000 ≤ x.tdiv g ∧ x.tdiv g ≤ 1000000000000 := by omega
      have hy2 : -1000000000000 ≤ y.tdiv g ∧ y.tdiv g ≤ 1000000000000 := by omega
      have HWX := hidH (show IntKind.i64.wrap (-(x.tdiv g)) = -(x.tdiv g) from IntWalk.i64_in _ (by omega))
      have HWY := hidH (show IntKind.i64.wrap (-(y.tdiv g)) = -(y.tdiv g) from IntWalk.i64_in _ (by omega))
      clear hx1 hy1
      have HNZ2 := HNZ
      generalize fnz row = f at *
      clear HNZ
      subst hm1
      go_enter Try.func42, Try.ntmps42
      go_wp2_with fail
      have HB1 := hidH (show Below w.heap.size w _ from (HW.out.alloc (Nat.le_refl _) (.cells #[.int .i64 0, .int .i64 0, .int .i64 0] 65)))
      have HZ1 := hidH (heap_alloc_new w (.cells #[.int .i64 0, .int .i64 0, .int .i64 0] 65))
      refine (indexNz4 _ row _ _ _ (HV.out.below HB1.out)).mono ?_; rintro e w2 ⟨rfl, rfl⟩
      rw [HNZ2.out]
      generalize w.alloc (.cells #[.int .i64 0, .int .i64 0, .int .i64 0] 65) = w1 at *
      have HX1 := hidH (show w1.cell? ⟨b, off + (row.length - 2), none⟩ = some (.int .i64 x) by rw [HB1.out.cell (p := ⟨b, off + (row.length - 2), none⟩) hbw]; exact HCX.out)
      have HY1 := hidH (show w1.cell? ⟨b, off + ((row.length - 2) + 1), none⟩ = some (.int .i64 y) by rw [HB1.out.cell (p := ⟨b, off + ((row.length - 2) + 1), none⟩) hbw]; exact HCY.out)
      have hcx := HX1.out
      have hcy := HY1.out
      have hwk : IntKind.i64.wrap ((((row.length - 2) : Nat) : Int) + 1) = (((row.length - 2) + 1 : Nat) : Int) := by rw [show (((row.length - 2) : Nat) : Int) + 1 = (((row.length - 2) + 1 : Nat) : Int) by omega]; exact IntWalk.i64_in _ (by omega)
      go_wp2_with fail
      go_region
      go_wp2_with fail
      refine (HG.out _).mono ?_; rintro e w2 ⟨rfl, q, rfl⟩
      have HB2 := hidH (show Below w.heap.size w (w1.drew.drewN q) from below_drewN (below_drewN HB1.out 1) q)
      have HZ2 := hidH (show (w1.drew.drewN q).heap[w.heap.size]? = some (.cells #[.int .i64 0, .int .i64 0, .int .i64 0] 65 (0, 0)) from HZ1.out)
      have hs2 := HB2.out.size
      clear hcx hcy HX1 HY1 HB1 HZ1
      generalize w1.drew.drewN q = w2 at *
      have HOR := hidH (or_any _ x y _ 0 (w2.heap.size + 1) ((Blk.lit w2 3 [x, y]).row (cap := 2) (n := 2) (Nat.zero_le _) (Nat.lt_succ_self _) (Nat.le_refl _) (by unfold maxLen; omega) rfl).lies)
      generalize orI x y = s at *
      go_wp2_with fail
      refine HOR.out.mono ?_; rintro e w3 ⟨rfl, rfl⟩
      have HB3 := hidH (bMore HB2.out (.cells #[.int .i64 x, .int .i64 y] 3))
      have HZ3 := hidH (show (w2.alloc (.cells #[.int .i64 x, .int .i64 y] 3)).heap[w.heap.size]? = some (.cells #[.int .i64 0, .int .i64 0, .int .i64 0] 65 (0, 0)) by
        rw [heap_alloc_old w2 _ (Array.getElem?_eq_some_iff.1 HZ2.out).1]; exact HZ2.out)
      clear HB2 HZ2
      go_wp2_with fail
      go_still_tail 8, (by kernel_rfl)
      change wpList _ _ _ _ _ (w2.alloc (.cells #[.int .i64 x, .int .i64 y] 3)).drew
      have HB4 := hidH (HB3.out.drew)
      have HZ4 := hidH (show (w2.alloc (.cells #[.int .i64 x, .int .i64 y] 3)).drew.heap[w.heap.size]? = some (.cells #[.int .i64 0, .int .i64 0, .int .i64 0] 65 (0, 0)) from HZ3.out)
      clear HB3 HZ3
      generalize (w2.alloc (.cells #[.int .i64 x, .int .i64 y] 3)).drew = w4 at *
      go_wp2_with (refine wpList_store_row rfl 65 _ _ rfl w.heap.size _ rfl rfl 65 _ HZ4.out (synd_size _ _ _) rfl (by simp [Value.oneCell']) ?_)
      refine bodyPost_ret (results_cell_row Try.results42 _ _ w.heap.size 65 _ (0, 0) _ rfl (row_setRow HZ4.out _) Try.underlying65 rfl (synd_size _ _ _)) rfl ?_
      exact ⟨by first | rfl | (rw [HWX.out, HWY.out]; rfl), bRow HB4.out (Nat.le_refl _) _⟩
  · rcases HM.out with ⟨hm1, hm2⟩ | ⟨hm1, hm2⟩
    · have hd : divI x y = ((Int.gcd x y : Nat) : Int) := by unfold divI; exact if_neg hng
      have HP := hidH (show synP x y = ((x.tdiv ((Int.gcd x y : Nat) : Int)), (y.tdiv ((Int.gcd x y : Nat) : Int))) by rw [synP, hd])
      have hdz := divI_pos x y HXY.out
      rw [hd] at hdz
      rw [HP.out]
      have hgb : ((Int.gcd x y : Nat) : Int) ≤ 1000000000000 := by
        rcases HXY.out with h | h
        · have := Int.gcd_le_natAbs_left y h; omega
        · have := Int.gcd_le_natAbs_right x h; omega
      have hg0 : 0 ≤ ((Int.gcd x y : Nat) : Int) := Int.natCast_nonneg _
      clear hd HP
      generalize ((Int.gcd x y : Nat) : Int) = g at *
      have hgz : (g != 0) = true := bne_iff_ne.2 hdz
      have hgz2 : (g == 0) = false := beq_eq_false_iff_ne.2 hdz
      have hx1 : (x.tdiv g).natAbs ≤ 1000000000000 := by rw [Int.natAbs_tdiv]; exact Nat.le_trans (Nat.div_le_self _ _) hxb
      have hy1 : (y.tdiv g).natAbs ≤ 1000000000000 := by rw [Int.natAbs_tdiv]; exact Nat.le_trans (Nat.div_le_self _ _) hyb
      have hx2 : -1000000000000 ≤ x.tdiv g ∧ x.tdiv g ≤ 1000000000000 := by omega
      have hy2 : -1000000000000 ≤ y.tdiv g ∧ y.tdiv g ≤ 1000000000000 := by omega
      have HWX := hidH (show IntKind.i64.wrap ((x.tdiv g)) = (x.tdiv g) from IntWalk.i64_in _ (by omega))
      have HWY := hidH (show IntKind.i64.wrap ((y.tdiv g)) = (y.tdiv g) from IntWalk.i64_in _ (by omega))
      clear hx1 hy1
      have hmn : k ≤ row.length - 2 := hm2
      have HNZ2 := hidH (show nzI row = (k : Int) by rw [HNZ.out, hm1])
      clear HNZ hm1 hm2
      go_enter Try.func42, Try.ntmps42
      go_wp2_with fail
      have HB1 := hidH (show Below w.heap.size w _ from (HW.out.alloc (Nat.le_refl _) (.cells #[.int .i64 0, .int .i64 0, .int .i64 0] 65)))
      have HZ1 := hidH (heap_alloc_new w (.cells #[.int .i64 0, .int .i64 0, .int .i64 0] 65))
      refine (indexNz4 _ row _ _ _ (HV.out.below HB1.out)).mono ?_; rintro e w2 ⟨rfl, rfl⟩
      rw [HNZ2.out]
      generalize w.alloc (.cells #[.int .i64 0, .int .i64 0, .int .i64 0] 65) = w1 at *
      have HX1 := hidH (show w1.cell? ⟨b, off + k, none⟩ = some (.int .i64 x) by rw [HB1.out.cell (p := ⟨b, off + k, none⟩) hbw]; exact HCX.out)
      have HY1 := hidH (show w1.cell? ⟨b, off + (k + 1), none⟩ = some (.int .i64 y) by rw [HB1.out.cell (p := ⟨b, off + (k + 1), none⟩) hbw]; exact HCY.out)
      have hcx := HX1.out
      have hcy := HY1.out
      have hwk : IntKind.i64.wrap (((k : Nat) : Int) + 1) = ((k + 1 : Nat) : Int) := by rw [show ((k : Nat) : Int) + 1 = ((k + 1 : Nat) : Int) by omega]; exact IntWalk.i64_in _ (by omega)
      go_wp2_with fail
      go_region
      go_wp2_with fail
      refine (HG.out _).mono ?_; rintro e w2 ⟨rfl, q, rfl⟩
      have HB2 := hidH (show Below w.heap.size w (w1.drew.drewN q) from below_drewN (below_drewN HB1.out 1) q)
      have HZ2 := hidH (show (w1.drew.drewN q).heap[w.heap.size]? = some (.cells #[.int .i64 0, .int .i64 0, .int .i64 0] 65 (0, 0)) from HZ1.out)
      have hs2 := HB2.out.size
      clear hcx hcy HX1 HY1 HB1 HZ1
      generalize w1.drew.drewN q = w2 at *
      have HOR := hidH (or_any _ x y _ 0 (w2.heap.size + 1) ((Blk.lit w2 3 [x, y]).row (cap := 2) (n := 2) (Nat.zero_le _) (Nat.lt_succ_self _) (Nat.le_refl _) (by unfold maxLen; omega) rfl).lies)
      generalize orI x y = s at *
      go_wp2_with fail
      refine HOR.out.mono ?_; rintro e w3 ⟨rfl, rfl⟩
      have HB3 := hidH (bMore HB2.out (.cells #[.int .i64 x, .int .i64 y] 3))
      have HZ3 := hidH (show (w2.alloc (.cells #[.int .i64 x, .int .i64 y] 3)).heap[w.heap.size]? = some (.cells #[.int .i64 0, .int .i64 0, .int .i64 0] 65 (0, 0)) by
        rw [heap_alloc_old w2 _ (Array.getElem?_eq_some_iff.1 HZ2.out).1]; exact HZ2.out)
      clear HB2 HZ2
      go_wp2_with fail
      go_still_tail 8, (by kernel_rfl)
      change wpList _ _ _ _ _ (w2.alloc (.cells #[.int .i64 x, .int .i64 y] 3)).drew
      have HB4 := hidH (HB3.out.drew)
      have HZ4 := hidH (show (w2.alloc (.cells #[.int .i64 x, .int .i64 y] 3)).drew.heap[w.heap.size]? = some (.cells #[.int .i64 0, .int .i64 0, .int .i64 0] 65 (0, 0)) from HZ3.out)
      clear HB3 HZ3
      generalize (w2.alloc (.cells #[.int .i64 x, .int .i64 y] 3)).drew = w4 at *
      go_wp2_with (refine wpList_store_row rfl 65 _ _ rfl w.heap.size _ rfl rfl 65 _ HZ4.out (synd_size _ _ _) rfl (by simp [Value.oneCell']) ?_)
      refine bodyPost_ret (results_cell_row Try.results42 _ _ w.heap.size 65 _ (0, 0) _ rfl (row_setRow HZ4.out _) Try.underlying65 rfl (synd_size _ _ _)) rfl ?_
      exact ⟨by first | rfl | (rw [HWX.out, HWY.out]; rfl), bRow HB4.out (Nat.le_refl _) _⟩
    · have hd : divI x y = ((Int.gcd x y : Nat) : Int) := by unfold divI; exact if_neg hng
      have HP := hidH (show synP x y = ((x.tdiv ((Int.gcd x y : Nat) : Int)), (y.tdiv ((Int.gcd x y : Nat) : Int))) by rw [synP, hd])
      have hdz := divI_pos x y HXY.out
      rw [hd] at hdz
      rw [HP.out]
      have hgb : ((Int.gcd x y : Nat) : Int) ≤ 1000000000000 := by
        rcases HXY.out with h | h
        · have := Int.gcd_le_natAbs_left y h; omega
        · have := Int.gcd_le_natAbs_right x h; omega
      have hg0 : 0 ≤ ((Int.gcd x y : Nat) : Int) := Int.natCast_nonneg _
      clear hd HP
      generalize ((Int.gcd x y : Nat) : Int) = g at *
      have hgz : (g != 0) = true := bne_iff_ne.2 hdz
      have hgz2 : (g == 0) = false := beq_eq_false_iff_ne.2 hdz
      have hx1 : (x.tdiv g).natAbs ≤ 1000000000000 := by rw [Int.natAbs_tdiv]; exact Nat.le_trans (Nat.div_le_self _ _) hxb
      have hy1 : (y.tdiv g).natAbs ≤ 1000000000000 := by rw [Int.natAbs_tdiv]; exact Nat.le_trans (Nat.div_le_self _ _) hyb
      have hx2 : -1000000000000 ≤ x.tdiv g ∧ x.tdiv g ≤ 1000000000000 := by omega
      have hy2 : -1000000000000 ≤ y.tdiv g ∧ y.tdiv g ≤ 1000000000000 := by omega
      have HWX := hidH (show IntKind.i64.wrap ((x.tdiv g)) = (x.tdiv g) from IntWalk.i64_in _ (by omega))
      have HWY := hidH (show IntKind.i64.wrap ((y.tdiv g)) = (y.tdiv g) from IntWalk.i64_in _ (by omega))
      clear hx1 hy1
      have HNZ2 := HNZ
      generalize fnz row = f at *
      clear HNZ
      subst hm1
      go_enter Try.func42, Try.ntmps42
      go_wp2_with fail
      have HB1 := hidH (show Below w.heap.size w _ from (HW.out.alloc (Nat.le_refl _) (.cells #[.int .i64 0, .int .i64 0, .int .i64 0] 65)))
      have HZ1 := hidH (heap_alloc_new w (.cells #[.int .i64 0, .int .i64 0, .int .i64 0] 65))
      refine (indexNz4 _ row _ _ _ (HV.out.below HB1.out)).mono ?_; rintro e w2 ⟨rfl, rfl⟩
      rw [HNZ2.out]
      generalize w.alloc (.cells #[.int .i64 0, .int .i64 0, .int .i64 0] 65) = w1 at *
      have HX1 := hidH (show w1.cell? ⟨b, off + (row.length - 2), none⟩ = some (.int .i64 x) by rw [HB1.out.cell (p := ⟨b, off + (row.length - 2), none⟩) hbw]; exact HCX.out)
      have HY1 := hidH (show w1.cell? ⟨b, off + ((row.length - 2) + 1), none⟩ = some (.int .i64 y) by rw [HB1.out.cell (p := ⟨b, off + ((row.length - 2) + 1), none⟩) hbw]; exact HCY.out)
      have hcx := HX1.out
      have hcy := HY1.out
      have hwk : IntKind.i64.wrap ((((row.length - 2) : Nat) : Int) + 1) = (((row.length - 2) + 1 : Nat) : Int) := by rw [show (((row.length - 2) : Nat) : Int) + 1 = (((row.length - 2) + 1 : Nat) : Int) by omega]; exact IntWalk.i64_in _ (by omega)
      go_wp2_with fail
      go_region
      go_wp2_with fail
      refine (HG.out _).mono ?_; rintro e w2 ⟨rfl, q, rfl⟩
      have HB2 := hidH (show Below w.heap.size w (w1.drew.drewN q) from below_drewN (below_drewN HB1.out 1) q)
      have HZ2 := hidH (show (w1.drew.drewN q).heap[w.heap.size]? = some (.cells #[.int .i64 0, .int .i64 0, .int .i64 0] 65 (0, 0)) from HZ1.out)
      have hs2 := HB2.out.size
      clear hcx hcy HX1 HY1 HB1 HZ1
      generalize w1.drew.drewN q = w2 at *
      have HOR := hidH (or_any _ x y _ 0 (w2.heap.size + 1) ((Blk.lit w2 3 [x, y]).row (cap := 2) (n := 2) (Nat.zero_le _) (Nat.lt_succ_self _) (Nat.le_refl _) (by unfold maxLen; omega) rfl).lies)
      generalize orI x y = s at *
      go_wp2_with fail
      refine HOR.out.mono ?_; rintro e w3 ⟨rfl, rfl⟩
      have HB3 := hidH (bMore HB2.out (.cells #[.int .i64 x, .int .i64 y] 3))
      have HZ3 := hidH (show (w2.alloc (.cells #[.int .i64 x, .int .i64 y] 3)).heap[w.heap.size]? = some (.cells #[.int .i64 0, .int .i64 0, .int .i64 0] 65 (0, 0)) by
        rw [heap_alloc_old w2 _ (Array.getElem?_eq_some_iff.1 HZ2.out).1]; exact HZ2.out)
      clear HB2 HZ2
      go_wp2_with fail
      go_still_tail 8, (by kernel_rfl)
      change wpList _ _ _ _ _ (w2.alloc (.cells #[.int .i64 x, .int .i64 y] 3)).drew
      have HB4 := hidH (HB3.out.drew)
      have HZ4 := hidH (show (w2.alloc (.cells #[.int .i64 x, .int .i64 y] 3)).drew.heap[w.heap.size]? = some (.cells #[.int .i64 0, .int .i64 0, .int .i64 0] 65 (0, 0)) from HZ3.out)
      clear HB3 HZ3
      generalize (w2.alloc (.cells #[.int .i64 x, .int .i64 y] 3)).drew = w4 at *
      go_wp2_with (refine wpList_store_row rfl 65 _ _ rfl w.heap.size _ rfl rfl 65 _ HZ4.out (synd_size _ _ _) rfl (by simp [Value.oneCell']) ?_)
      refine bodyPost_ret (results_cell_row Try.results42 _ _ w.heap.size 65 _ (0, 0) _ rfl (row_setRow HZ4.out _) Try.underlying65 rfl (synd_size _ _ _)) rfl ?_
      exact ⟨by first | rfl | (rw [HWX.out, HWY.out]; rfl), bRow HB4.out (Nat.le_refl _) _⟩
end Go.Proofs.Ytlicihjjbojpcaa
