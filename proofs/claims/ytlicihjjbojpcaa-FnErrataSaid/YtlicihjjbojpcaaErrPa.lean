/-
  The draw of a table, a place and an amount for the laws of PutError. No conditions but that the bytes that came in can be read.
-/
import Derived.Test.YtlicihjjbojpcaaErrKd
import Derived.Test.YtlicihjjbojpcaaErrPm
namespace Go.Proofs.Ytlicihjjbojpcaa
set_option maxRecDepth 4000
open Go.RowKit
/-- A drawn slice of numbers, a place and an amount. -/
def DrawTka (w : World) (e : Ending) (w' : World) : Prop := ∃ (v : Value) (zs : List Int) (k a : Int), e = .returned (.tuple #[v, .int .i64 k, .int .i64 a]) ∧ Lies w' 0 w'.heap.size v zs ∧ zs.length ≤ 61 ∧ Below w.heap.size w w'
set_option maxHeartbeats 3200000 in
theorem drawPutError (a : Option Addr) (len cap : Nat) (w : World) (hc : Came w a len cap) (hl : len ≤ 1048576) : Calls Try.prog 20 #[.slice a len cap] w (DrawTka w) := by
  have HO := hidH (opened_any a len cap w hc hl)
  clear hc
  go_enter Try.func20, Try.ntmps20
  go_wp2_with fail
  refine HO.out.mono ?_
  rintro e w1 ⟨rfl, hR, hB⟩
  have R1 := hidH hR
  have B1 := hidH hB
  have s1 := hB.size
  have hr1 := hR.lt
  clear hR hB HO
  go_wp2_with fail
  refine (tab4_any w.heap.size 0 w1 R1.out (by omega)).mono ?_
  rintro e w2 ⟨g, gc, d, zs, rfl, hG, hg1, hgc, hgm, hd6, hz1, hz2, hR, hO⟩
  have K2 := hidH hG
  have R2 := hidH hR
  have O2 := hidH hO
  clear hG hR hO R1
  go_wp2_with fail
  refine (pick_any zs.length w.heap.size _ w2 R2.out (by omega)).mono ?_
  rintro e w3 ⟨k, rfl, k0, k1, hR, hO⟩
  have k2 := k1 (by omega)
  have R3 := hidH hR
  have O3 := hidH (O2.out.trans hO)
  have K3 := hidH (K2.out.onto hO (by omega))
  clear k1 hR hO R2 O2 K2
  go_wp2_with fail
  refine (pick_any 256 w.heap.size _ w3 R3.out (by omega)).mono ?_
  rintro e w4 ⟨m, rfl, m0, m1, hR, hO⟩
  have m2 := m1 (by omega)
  have R4 := hidH hR
  have O4 := hidH (O3.out.trans hO)
  have K4 := hidH (K3.out.onto hO (by omega))
  clear m1 hR hO R3 O3 K3
  go_wp2_with fail
  refine (pick_any 16 w.heap.size _ w4 R4.out (by omega)).mono ?_
  rintro e w5 ⟨x, rfl, x0, x1, hR, hO⟩
  have x2 := x1 (by omega)
  have R5 := hidH hR
  have O5 := hidH (O4.out.trans hO)
  have K5 := hidH (K4.out.onto hO (by omega))
  clear x1 hR hO R4 O4 K4
  by_cases e_x : x = 0
  · have b_x : (x == 0) = true := beq_iff_eq.2 e_x
    clear e_x
    go_wp2_with fail
    have hN := num_any w5.heap.size 0 [-1, (zs.length : Int), 9223372036854775807] w.heap.size _ (w5.alloc (.cells (intC [-1, (zs.length : Int), 9223372036854775807]) 3)) (R5.out.onto ((Below.refl _ _).alloc (Nat.le_refl _) _)) (by omega) (by first | decide | exact Nat.succ_pos _) (by first | decide | exact (show 3 ≤ 1000 from by decide)) (ints_new _ _ _ _ R5.out.lt)
    refine hN.mono ?_
    rintro e w6 ⟨kk, hz, rfl, hR, hO⟩
    have R6 := hidH hR
    have O6 := hidH (O5.out.trans (((Onto.refl _ _).alloc (.cells (intC [-1, (zs.length : Int), 9223372036854775807]) 3)).trans hO))
    have K6 := hidH (K5.out.onto (((Onto.refl _ _).alloc (.cells (intC [-1, (zs.length : Int), 9223372036854775807]) 3)).trans hO) (by omega))
    clear hN hz hR hO R5 O5 K5
    go_wp2_with fail
    refine (badTab2_len w.heap.size _ g 0 gc zs.length zs w6 rfl R6.out (by omega) (BlkO.of_blk K6.out) hgc hgm (by omega) (by omega) (by omega)).mono ?_
    rintro e w20 ⟨u, us, rfl, hlu, h61, hR, hO⟩
    have U20 := hidH hlu
    have O20 := hidH (B1.out.trans ((O6.out.below (Nat.le_refl _) s1).trans (hO.below (Nat.le_refl _) (by omega) (by have := O6.out.size; omega))))
    clear hlu hR hO
    go_wp2_with fail
    ((try simp only [Exit.inBlock, Exit.then]); refine bodyPost_ret (results_tmp3 rfl _ _ _) rfl ?_)
    exact ⟨_, us, kk, (m - 128), rfl, U20.out.mono (Nat.zero_le _) (Nat.le_refl _), h61, O20.out⟩
  · have b_x : (x == 0) = false := beq_eq_false_iff_ne.2 e_x
    clear e_x
    by_cases e_x1 : x = 1
    · have b_x1 : (x == 1) = true := beq_iff_eq.2 e_x1
      clear e_x1
      go_wp2_with fail
      have hN := num_any w5.heap.size 0 [1000000000, -1000000000, 9223372036854775807] w.heap.size _ (w5.alloc (.cells (intC [1000000000, -1000000000, 9223372036854775807]) 3)) (R5.out.onto ((Below.refl _ _).alloc (Nat.le_refl _) _)) (by omega) (by first | decide | exact Nat.succ_pos _) (by first | decide | exact (show 3 ≤ 1000 from by decide)) (ints_new _ _ _ _ R5.out.lt)
      refine hN.mono ?_
      rintro e w6 ⟨mm, hz, rfl, hR, hO⟩
      have R6 := hidH hR
      have O6 := hidH (O5.out.trans (((Onto.refl _ _).alloc (.cells (intC [1000000000, -1000000000, 9223372036854775807]) 3)).trans hO))
      have K6 := hidH (K5.out.onto (((Onto.refl _ _).alloc (.cells (intC [1000000000, -1000000000, 9223372036854775807]) 3)).trans hO) (by omega))
      clear hN hz hR hO R5 O5 K5
      go_wp2_with fail
      refine (badTab2_len w.heap.size _ g 0 gc zs.length zs w6 rfl R6.out (by omega) (BlkO.of_blk K6.out) hgc hgm (by omega) (by omega) (by omega)).mono ?_
      rintro e w20 ⟨u, us, rfl, hlu, h61, hR, hO⟩
      have U20 := hidH hlu
      have O20 := hidH (B1.out.trans ((O6.out.below (Nat.le_refl _) s1).trans (hO.below (Nat.le_refl _) (by omega) (by have := O6.out.size; omega))))
      clear hlu hR hO
      go_wp2_with fail
      ((try simp only [Exit.inBlock, Exit.then]); refine bodyPost_ret (results_tmp3 rfl _ _ _) rfl ?_)
      exact ⟨_, us, k, mm, rfl, U20.out.mono (Nat.zero_le _) (Nat.le_refl _), h61, O20.out⟩
    · have b_x1 : (x == 1) = false := beq_eq_false_iff_ne.2 e_x1
      clear e_x1
      go_wp2_with fail
      refine (badTab2_len w.heap.size _ g 0 gc zs.length zs w5 rfl R5.out (by omega) (BlkO.of_blk K5.out) hgc hgm (by omega) (by omega) (by omega)).mono ?_
      rintro e w20 ⟨u, us, rfl, hlu, h61, hR, hO⟩
      have U20 := hidH hlu
      have O20 := hidH (B1.out.trans ((O5.out.below (Nat.le_refl _) s1).trans (hO.below (Nat.le_refl _) (by omega) (by have := O5.out.size; omega))))
      clear hlu hR hO
      go_wp2_with fail
      ((try simp only [Exit.inBlock, Exit.then]); refine bodyPost_ret (results_tmp3 rfl _ _ _) rfl ?_)
      exact ⟨_, us, k, (m - 128), rfl, U20.out.mono (Nat.zero_le _) (Nat.le_refl _), h61, O20.out⟩
end Go.Proofs.Ytlicihjjbojpcaa
