/-
  The amount of the error in an entry: the program. No conditions but bounds of numbers.
-/
import Derived.Test.YtlicihjjbojpcaaErrM
import Derived.Test.YtlicihjjbojpcaaErrI
import Derived.Test.YtlicihjjbojpcaaErrE
namespace Go.Proofs.Ytlicihjjbojpcaa
set_option maxRecDepth 4000
open Go.RowKit
set_option maxHeartbeats 1600000 in
theorem amount_any (v : Value) (row : List Int) (o at_ : Nat) (w : World) (lo hi : Nat) (hv : Lies w lo hi v row) (ho : o ≤ 7) (h : at_ < row.length + o) (hn : row.length ≤ 60) (h0 : 0 < row.length) (hbd : ∀ x ∈ row, x.natAbs ≤ 1000000000000) : Calls Try.prog 43 #[v, .int .i64 o, .int .i64 at_] w (Gives (.int .i64 (guessN row o at_)) w) := by
  have HV := hidH hv
  obtain ⟨b, off, cap, rfl, hlc, hcm, _, _, _, _⟩ := hv.addr h0
  unfold maxLen at hcm
  clear hv
  have HE := hidH (errRow_any (row.length + o) o at_ row.length 1 rfl ho h hn (by omega) (by omega) w)
  rw [show ((row.length + o : Nat) : Int) = (row.length : Int) + (o : Int) by omega] at HE
  have HF := hidH (errL_first o at_ 1 row.length ho (by decide) h h0)
  have HL := hidH (errL_length o at_ 1 row.length)
  have hkl : at_ - o < row.length := by omega
  obtain ⟨z, hz⟩ := get_lt row (at_ - o) hkl
  have HZ := hidH hz
  have hzb := hbd z (List.mem_of_getElem? hz)
  have HU := hidH (errL_get o at_ 1 row.length (at_ - o) hkl)
  have hne := coef_first o at_ ho
  have ⟨c1, c2⟩ := coef_bd o at_ (at_ - o) ho
  have HG := hidH (show guessN row o at_ = z.tdiv (coefN o at_ (at_ - o)) by unfold guessN; rw [getD_of hz])
  have hq : (z.tdiv (coefN o at_ (at_ - o))).natAbs ≤ 1000000000000 := by rw [Int.natAbs_tdiv]; exact Nat.le_trans (Nat.div_le_self _ _) hzb
  rw [Int.mul_one] at HU
  clear hz hbd
  generalize coefN o at_ (at_ - o) = c at *
  go_enter Try.func43, Try.ntmps43
  go_wp2_with fail
  refine HE.out.mono ?_; rintro e w1 ⟨u, rfl, hr, hb⟩
  have HV1 := hidH (HV.out.below hb)
  have HB := hidH hb
  have HR := hidH hr
  clear hr hb HE
  go_wp2_with fail
  refine (indexNz4 u _ _ _ _ HR.out.lies).mono ?_; rintro e w2 ⟨rfl, rfl⟩
  rw [nzI, HF.out, HL.out, if_pos hkl]
  obtain ⟨ub, ucap, rfl, huc, hum, _, _, hub⟩ := HR.out.blk (by rw [HL.out]; exact h0)
  rw [HL.out] at huc
  rw [HL.out]
  unfold maxLen at hum
  have hcu := (hub.2 _ _ HU.out).1
  have hcz : w1.cell? ⟨b, off + (at_ - o), none⟩ = some (.int .i64 z) := by
    obtain ⟨a1, cap1, e0, _, _, _, hcell⟩ := HV1.out
    injection e0 with e0 e3 e4
    subst e0
    obtain ⟨b1, off1, e1, _, _, hc1⟩ := hcell _ _ HZ.out
    injection e1 with e1
    injection e1 with e1 e2
    subst e1; subst e2
    exact hc1
  have hneb : (c != 0) = true := bne_iff_ne.2 hne
  have hneb2 : (c == 0) = false := beq_eq_false_iff_ne.2 hne
  have hz1 : -1000000000000 ≤ z := by omega
  have hz2 : z ≤ 1000000000000 := by omega
  have hq1 : -1000000000000 ≤ z.tdiv c := by omega
  have hq2 : z.tdiv c ≤ 1000000000000 := by omega
  clear hub hq hzb
  generalize at_ - o = p at *
  go_wp2_with fail
  go_quiet (fail)
  go_wp2_with fail
  go_ret
  exact ⟨by rw [HG.out]; rfl, below_drewN HB.out _⟩
end Go.Proofs.Ytlicihjjbojpcaa
