/-
  The draw of a segment. No conditions but that the bytes that came in can be read.
-/
import Derived.Test.YtgdfbnedaalflaaPlanG
import Derived.Test.YtgdfbnedaalflaaPlanB
namespace Go.Proofs.Ytgdfbnedaalflaa
set_option maxRecDepth 4000
open Go.RowKit
theorem results_tmp45 {fn : Func} {p q r s : Tmp} (h : fn.results = #[.tmp p, .tmp q, .tmp r, .tmp s]) (tmps : Array Value) (P : Program) (w : World) : (results fn tmps).run P w = .ok (.tuple #[tmps.getD p undef, tmps.getD q undef, tmps.getD r undef, tmps.getD s undef]) w := by
  simp [results, h]
theorem came_below5 {w w' : World} {a : Option Addr} {len cap : Nat} (h : Came w a len cap) (hb : Below w.heap.size w w') : Came w' a len cap :=
 by
  obtain ⟨h1, h2, h3, h4⟩ := h
  refine ⟨h1, h2, fun j hj => ?_, h4⟩
  obtain ⟨b, off, x, e, hl, x0, x1, hc⟩ := h3 j hj
  exact ⟨b, off, x, e, Nat.lt_of_lt_of_le hl hb.size, x0, x1, by rw [hb.cell (p := ⟨b, off + j, none⟩) hl]; exact hc⟩
/-- A drawn slice of numbers, a place, a number and a degree. -/
def DrawTfcd (w : World) (e : Ending) (w' : World) : Prop := ∃ (v : Value) (zs : List Int) (f c d : Int), e = .returned (.tuple #[v, .int .i64 f, .int .i64 c, .int .i64 d]) ∧ Lies w' 0 w'.heap.size v zs ∧ zs.length ≤ 61 ∧ Below w.heap.size w w'
theorem runAns_bd (zs : List Int) (f d : Int) : -1 ≤ runAns zs f d ∧ runAns zs f d ≤ 60 := by
  unfold runAns
  split
  · rename_i h
    rw [Bool.and_eq_true] at h
    have := ((small_iff zs).1 h.1).2.1
    have h2 := longN_le (d.toNat + 1) (zs.drop f.toNat)
    rw [List.length_drop] at h2
    omega
  · omega
set_option maxHeartbeats 1600000 in
theorem drawSegmentOf (a : Option Addr) (len cap : Nat) (w : World) (hc : Came w a len cap) (hl : len ≤ 1048576) : Calls Try.prog 11 #[.slice a len cap] w (DrawTfcd w) := by
  have HO := hidH (opened_any a len cap w hc hl)
  have HD := hidH (fun (W : World) (hb : Below w.heap.size w W) => drawLongestRun a len cap W (came_below5 hc hb) hl)
  clear hc
  go_enter Try.func11, Try.ntmps11
  go_wp2_with fail
  refine HO.out.mono ?_
  rintro e w1 ⟨rfl, hR, hB⟩
  have R1 := hidH hR
  have B1 := hidH hB
  have s1 := hB.size
  have hr1 := hR.lt
  clear hR hB HO
  go_wp2_with fail
  refine (HD.out w1 B1.out).mono ?_
  rintro e w2 ⟨v, zs, f, d, rfl, hL, h61, d1, d7, hb⟩
  have K2 := hidH hL
  have R2 := hidH (R1.out.onto hb)
  have O2 := hidH (Onto.of_below (r := w.heap.size) hb)
  have ⟨q1, q2⟩ := runAns_bd zs f d
  obtain ⟨va, vc, rfl⟩ := hL.some5
  clear hL hb R1 HD
  go_wp2_with fail
  refine (sLrun_any _ zs f d w2 _ _ K2.out).mono ?_
  rintro e w3 ⟨rfl, hb⟩
  have K3 := hidH ((K2.out.below hb).mono (Nat.le_refl _) hb.size)
  have R3 := hidH (R2.out.onto hb)
  have O3 := hidH (O2.out.trans (Onto.of_below hb))
  clear hb K2 R2 O2
  generalize runAns zs f d = q at *
  go_wp2_with fail
  refine (pick_any 3 w.heap.size _ w3 R3.out (by omega)).mono ?_
  rintro e w4 ⟨y, rfl, y0, y1, hR, hO⟩
  have y2 := y1 (by omega)
  have R4 := hidH hR
  have O4 := hidH (O3.out.trans hO)
  have K4 := hidH (K3.out.onto5 hO (by omega))
  clear y1 hR hO R3 O3 K3
  by_cases hm : 0 ≤ q - y
  · have hmx : max (q - y) 0 = q - y := by omega
    go_wp2_with fail
    refine (pick_any 10 w.heap.size _ w4 R4.out (by omega)).mono ?_
    rintro e w5 ⟨x, rfl, x0, x1, hR, hO⟩
    have x2 := x1 (by omega)
    have R5 := hidH hR
    have O5 := hidH (O4.out.trans hO)
    have K5 := hidH (K4.out.onto5 hO (by omega))
    clear x1 hR hO R4 O4 K4
    by_cases e_x : x = 0
    · have b_x : (x == 0) = true := beq_iff_eq.2 e_x
      clear e_x
      go_wp2_with fail
      refine (pick_any 6 w.heap.size _ w5 R5.out (by omega)).mono ?_
      rintro e w6 ⟨c1, rfl, c10, c11, hR, hO⟩
      have c12 := c11 (by omega)
      have R6 := hidH hR
      have O6 := hidH (O5.out.trans hO)
      have K6 := hidH (K5.out.onto5 hO (by omega))
      clear c11 hR hO R5 O5 K5
      go_wp2_with fail
      ((try simp only [Exit.inBlock, Exit.then]); refine bodyPost_ret (results_tmp45 rfl _ _ _) rfl ?_)
      exact ⟨_, zs, f, c1, d, rfl, K6.out.mono (Nat.zero_le _) (Nat.le_refl _), h61, B1.out.trans (O6.out.below (Nat.le_refl _) s1)⟩
    · have b_x : (x == 0) = false := beq_eq_false_iff_ne.2 e_x
      clear e_x
      by_cases e_x1 : x = 1
      · have b_x1 : (x == 1) = true := beq_iff_eq.2 e_x1
        clear e_x1
        go_wp2_with fail
        have hN := num_any w5.heap.size 0 [-1, 61, 9223372036854775807] w.heap.size _ (w5.alloc (.cells (intC [-1, 61, 9223372036854775807]) 3)) (R5.out.onto ((Below.refl _ _).alloc (Nat.le_refl _) _)) (by omega) (by first | decide | exact Nat.succ_pos _) (by first | decide | exact (show 3 ≤ 1000 from by decide)) (ints_new _ _ _ _ R5.out.lt)
        refine hN.mono ?_
        rintro e w6 ⟨c2, hz, rfl, hR, hO⟩
        have R6 := hidH hR
        have O6 := hidH (O5.out.trans (((Onto.refl _ _).alloc (.cells (intC [-1, 61, 9223372036854775807]) 3)).trans hO))
        have K6 := hidH (K5.out.onto5 (((Onto.refl _ _).alloc (.cells (intC [-1, 61, 9223372036854775807]) 3)).trans hO) (by omega))
        clear hN hz hR hO R5 O5 K5
        go_wp2_with fail
        ((try simp only [Exit.inBlock, Exit.then]); refine bodyPost_ret (results_tmp45 rfl _ _ _) rfl ?_)
        exact ⟨_, zs, f, c2, d, rfl, K6.out.mono (Nat.zero_le _) (Nat.le_refl _), h61, B1.out.trans (O6.out.below (Nat.le_refl _) s1)⟩
      · have b_x1 : (x == 1) = false := beq_eq_false_iff_ne.2 e_x1
        clear e_x1
        go_wp2_with fail
        ((try simp only [Exit.inBlock, Exit.then]); refine bodyPost_ret (results_tmp45 rfl _ _ _) rfl ?_)
        exact ⟨_, zs, f, (q - y), d, rfl, K5.out.mono (Nat.zero_le _) (Nat.le_refl _), h61, B1.out.trans (O5.out.below (Nat.le_refl _) s1)⟩
  · have hmx : max (q - y) 0 = 0 := by omega
    go_wp2_with fail
    refine (pick_any 10 w.heap.size _ w4 R4.out (by omega)).mono ?_
    rintro e w5 ⟨x, rfl, x0, x1, hR, hO⟩
    have x2 := x1 (by omega)
    have R5 := hidH hR
    have O5 := hidH (O4.out.trans hO)
    have K5 := hidH (K4.out.onto5 hO (by omega))
    clear x1 hR hO R4 O4 K4
    by_cases e_x : x = 0
    · have b_x : (x == 0) = true := beq_iff_eq.2 e_x
      clear e_x
      go_wp2_with fail
      refine (pick_any 6 w.heap.size _ w5 R5.out (by omega)).mono ?_
      rintro e w6 ⟨c1, rfl, c10, c11, hR, hO⟩
      have c12 := c11 (by omega)
      have R6 := hidH hR
      have O6 := hidH (O5.out.trans hO)
      have K6 := hidH (K5.out.onto5 hO (by omega))
      clear c11 hR hO R5 O5 K5
      go_wp2_with fail
      ((try simp only [Exit.inBlock, Exit.then]); refine bodyPost_ret (results_tmp45 rfl _ _ _) rfl ?_)
      exact ⟨_, zs, f, c1, d, rfl, K6.out.mono (Nat.zero_le _) (Nat.le_refl _), h61, B1.out.trans (O6.out.below (Nat.le_refl _) s1)⟩
    · have b_x : (x == 0) = false := beq_eq_false_iff_ne.2 e_x
      clear e_x
      by_cases e_x1 : x = 1
      · have b_x1 : (x == 1) = true := beq_iff_eq.2 e_x1
        clear e_x1
        go_wp2_with fail
        have hN := num_any w5.heap.size 0 [-1, 61, 9223372036854775807] w.heap.size _ (w5.alloc (.cells (intC [-1, 61, 9223372036854775807]) 3)) (R5.out.onto ((Below.refl _ _).alloc (Nat.le_refl _) _)) (by omega) (by first | decide | exact Nat.succ_pos _) (by first | decide | exact (show 3 ≤ 1000 from by decide)) (ints_new _ _ _ _ R5.out.lt)
        refine hN.mono ?_
        rintro e w6 ⟨c2, hz, rfl, hR, hO⟩
        have R6 := hidH hR
        have O6 := hidH (O5.out.trans (((Onto.refl _ _).alloc (.cells (intC [-1, 61, 9223372036854775807]) 3)).trans hO))
        have K6 := hidH (K5.out.onto5 (((Onto.refl _ _).alloc (.cells (intC [-1, 61, 9223372036854775807]) 3)).trans hO) (by omega))
        clear hN hz hR hO R5 O5 K5
        go_wp2_with fail
        ((try simp only [Exit.inBlock, Exit.then]); refine bodyPost_ret (results_tmp45 rfl _ _ _) rfl ?_)
        exact ⟨_, zs, f, c2, d, rfl, K6.out.mono (Nat.zero_le _) (Nat.le_refl _), h61, B1.out.trans (O6.out.below (Nat.le_refl _) s1)⟩
      · have b_x1 : (x == 1) = false := beq_eq_false_iff_ne.2 e_x1
        clear e_x1
        go_wp2_with fail
        ((try simp only [Exit.inBlock, Exit.then]); refine bodyPost_ret (results_tmp45 rfl _ _ _) rfl ?_)
        exact ⟨_, zs, f, 0, d, rfl, K5.out.mono (Nat.zero_le _) (Nat.le_refl _), h61, B1.out.trans (O5.out.below (Nat.le_refl _) s1)⟩
end Go.Proofs.Ytgdfbnedaalflaa
