/-
  The draw of a table and a degree for the law of FindError. No conditions but that the bytes that came in can be read.
-/
import Derived.Test.YtlicihjjbojpcaaErrKd
import Derived.Test.YtlicihjjbojpcaaErrKe
namespace Go.Proofs.Ytlicihjjbojpcaa
set_option maxRecDepth 4000
open Go.RowKit
def errNums : List Int := [1, 1, 1, 0, 2]
theorem BlkO.cut {w : World} {b off : Nat} {zs : List Int} (H : BlkO w b off zs) (n : Nat) : BlkO w b off (zs.take n) := ⟨H.1, fun j z hj => by
  rw [List.getElem?_take] at hj
  split at hj
  · exact H.2 j z hj
  · cases hj⟩
set_option maxHeartbeats 3200000 in
theorem drawFindError (a : Option Addr) (len cap : Nat) (w : World) (hc : Came w a len cap) (hl : len ≤ 1048576) : Calls Try.prog 9 #[.slice a len cap] w (DrawTd w) := by
  have HO := hidH (opened_any a len cap w hc hl)
  clear hc
  go_enter Try.func9, Try.ntmps9
  go_wp2_with fail
  refine HO.out.mono ?_
  rintro e w1 ⟨rfl, hR, hB⟩
  have R1 := hidH hR
  have B1 := hidH hB
  have s1 := hB.size
  have hr1 := hR.lt
  clear hR hB HO
  go_wp2_with fail
  refine (tab4_any w.heap.size 0 w1 R1.out (by omega)).mono ?_
  rintro e w2 ⟨g, gc, d, zs, rfl, hG, hg1, hgc, hgm, hd6, hz1, hz2, hR, hO⟩
  have G2 := hidH hG
  have R2 := hidH hR
  have O2 := hidH hO
  clear hG hR hO R1
  go_wp2_with fail
  have hN := num_any w2.heap.size 0 errNums w.heap.size _ (w2.alloc (.cells (intC errNums) 3)) (R2.out.onto ((Below.refl _ _).alloc (Nat.le_refl _) _)) (by omega) (by decide) (by decide) (ints_new _ _ _ _ R2.out.lt)
  refine hN.mono ?_
  rintro e w3 ⟨n, hn, rfl, hR, hO⟩
  have hnb : 0 ≤ n ∧ n ≤ 2 := by
    have : ∀ y ∈ errNums, 0 ≤ y ∧ y ≤ 2 := by decide
    exact this n hn
  have R3 := hidH hR
  have O3 := hidH (O2.out.trans (((Onto.refl _ _).alloc (.cells (intC errNums) 3)).trans hO))
  have G3 := hidH (G2.out.onto (((Onto.refl _ _).alloc (.cells (intC errNums) 3)).trans hO) (by omega))
  clear hN hn hR hO R2 O2 G2
  have ⟨n0, n2⟩ := hnb
  obtain ⟨n, rfl⟩ := Int.eq_ofNat_of_zero_le n0
  clear hnb n0
  go_wp2_with fail
  go_loopw [7] (fun i wr => ∃ (k : Nat) (ys : List Int), k ≤ 2 ∧ i = .int .i64 k ∧ ys.length = zs.length ∧ Rd wr w.heap.size (100 - 2 * k) ∧ Blk wr g ys ∧ Onto w.heap.size w1 wr) (fun i _ => (intOf i).toNat)
  case atStart => exact ⟨n, zs, by omega, rfl, rfl, R3.out.more (by omega), G3.out, O3.out⟩
  case round =>
    obtain ⟨k, ys, hk, rfl, hyl, hR, hG, hO⟩ := hrel
    have R5 := hidH hR
    have G5 := hidH hG
    have O5 := hidH hO
    have HYL := hidH hyl
    clear hR hG hO R3 O3 G3 hyl
    by_cases hk0 : 0 < k
    · go_wp2_with fail
      refine (pick_any zs.length w.heap.size _ wr R5.out (by omega)).mono ?_
      rintro e w6 ⟨x, rfl, x0, x1, hR, hO⟩
      have x2 := x1 (by omega)
      have R6 := hidH hR
      have O6 := hidH (O5.out.trans hO)
      have G6 := hidH (G5.out.ontob hO (by omega))
      clear x1 hR hO R5 O5 G5
      obtain ⟨x, rfl⟩ := Int.eq_ofNat_of_zero_le x0
      have hxz : x < zs.length := by omega
      obtain ⟨y, hy⟩ := get_lt ys x (by rw [HYL.out]; omega)
      obtain ⟨hcy, hfy⟩ := G6.out.2 x y hy
      clear hy
      go_wp2_with fail
      go_region_with ((go_at_call 35; (with_reducible refine (pick_any 20 w.heap.size _ _ (rdDrewb R6.out) (by omega)).mono ?_); rintro e w7 ⟨t, rfl, t0, t1, hR, hO⟩; (have R7 := hidH hR); (have O7 := hidH (O6.out.trans ((ontoDrewb _ w6).trans hO))); (have G7 := hidH (G6.out.ontob ((ontoDrewb _ w6).trans hO) (by omega))); (have hcy7 : w7.cell? ⟨g, x, none⟩ = some (.int .i64 y) := by rw [hO.cell (p := ⟨g, x, none⟩) (by have := G6.out.1; exact this) (by show g ≠ w.heap.size; omega)]; exact hcy); (have hfy7 : w7.frozen? ⟨g, x, none⟩ = false := by rw [hO.frozen (p := ⟨g, x, none⟩) (by have := G6.out.1; exact this) (by show g ≠ w.heap.size; omega)]; exact hfy); clear t0 t1 hR hO))
      all_goals (
        have K8 := hidH (fun v => G7.out.set x v)
        have R8 := hidH (fun v => R7.out.low ((Onto.setCell g x w7 v).below (B := w.heap.size + 1) (by omega) (by have := R7.out.lt; omega)))
        have O8 := hidH (fun v => O7.out.trans_newb (Onto.setCell g x w7 v) (by omega))
        clear R7 O7 G7
        go_wp2_with fail
        go_roundw
        case rel =>
          exact ⟨k - 1, ys.set x _, by omega, by go_num, by rw [List.length_set]; exact HYL.out, (R8.out _).more (by omega), K8.out _, O8.out _⟩
        case measure => simp [intOf]; omega)
    · obtain rfl : k = 0 := by omega
      clear hk0
      have s5 := O5.out.size
      obtain ⟨w6, rfl⟩ : ∃ w6, w6 = wr := ⟨_, rfl⟩
      go_wp2_with fail
      refine (pick_any 10 w.heap.size _ w6 R5.out (by omega)).mono ?_
      rintro e w7 ⟨x, rfl, x0, x1, hR, hO⟩
      have R7 := hidH hR
      have O7 := hidH (O5.out.trans hO)
      have G7 := hidH (G5.out.ontob hO (by omega))
      clear x0 x1 hR hO R5 O5 G5
      by_cases e0 : x = 0
      · have b0 : (x == 0) = true := beq_iff_eq.2 e0
        clear e0
        go_wp2_with fail
        refine (pick_any 3 w.heap.size _ w7 R7.out (by omega)).mono ?_
        rintro e w8 ⟨y, rfl, y0, y1, hR, hO⟩
        have y2 := y1 (by omega)
        have R8 := hidH hR
        have O8 := hidH (O7.out.trans hO)
        have G8 := hidH (G7.out.ontob hO (by omega))
        clear y1 hR hO R7 O7 G7
        obtain ⟨y, rfl⟩ := Int.eq_ofNat_of_zero_le y0
        have hly : (zs.length : Int) - y = ((zs.length - y : Nat) : Int) := by omega
        go_wp2_with fail
        refine (badTab2_len w.heap.size _ g 0 gc (zs.length - y) (ys.take (zs.length - y)) w8 (by rw [List.length_take, HYL.out]; omega) R8.out (by omega) ((BlkO.of_blk G8.out).cut _) (by omega) hgm (by omega) (by omega) (by omega)).mono ?_
        rintro e w20 ⟨u, us, rfl, hl, h61, hR, hO⟩
        have U20 := hidH hl
        have R20 := hidH hR
        have O20 := hidH (B1.out.trans ((O8.out.below (Nat.le_refl _) s1).trans (hO.below (Nat.le_refl _) (by omega) (by have := O8.out.size; omega))))
        clear hl hR hO
        obtain ⟨ua, un, uc, huf⟩ : ∃ a2 n2 c2, u = .slice a2 n2 c2 := by
          obtain ⟨a2, c2, e, _⟩ := U20.out
          exact ⟨a2, _, c2, e⟩
        subst huf
        go_wp2_with fail
        refine (off4_any w.heap.size _ _ w20 R20.out (by omega)).mono ?_
        rintro e w21 ⟨q, rfl, hR, hO⟩
        have U21 := hidH (U20.out.apart (lo := w.heap.size) (hi := w.heap.size + 1) (Apart.of_onto hO (Nat.le_refl _) (Nat.lt_succ_self _)) (.inr (Nat.le_refl _)))
        have hsz := O20.out.size
        have O21 := hidH (O20.out.trans (hO.below (Nat.le_refl _) hsz))
        have hsz2 := hO.size
        clear hR hO
        go_wp2_with fail
        go_ret2
        exact ⟨_, us, q, rfl, U21.out.mono (Nat.zero_le _) hsz2, h61, O21.out⟩
      · have b0 : (x == 0) = false := beq_eq_false_iff_ne.2 e0
        clear e0
        go_wp2_with fail
        refine (badTab2_len w.heap.size _ g 0 gc (zs.length) ys w7 HYL.out R7.out (by omega) (BlkO.of_blk G7.out) (by omega) hgm (by omega) (by omega) (by omega)).mono ?_
        rintro e w20 ⟨u, us, rfl, hl, h61, hR, hO⟩
        have U20 := hidH hl
        have R20 := hidH hR
        have O20 := hidH (B1.out.trans ((O7.out.below (Nat.le_refl _) s1).trans (hO.below (Nat.le_refl _) (by omega) (by have := O7.out.size; omega))))
        clear hl hR hO
        obtain ⟨ua, un, uc, huf⟩ : ∃ a2 n2 c2, u = .slice a2 n2 c2 := by
          obtain ⟨a2, c2, e, _⟩ := U20.out
          exact ⟨a2, _, c2, e⟩
        subst huf
        go_wp2_with fail
        refine (off4_any w.heap.size _ _ w20 R20.out (by omega)).mono ?_
        rintro e w21 ⟨q, rfl, hR, hO⟩
        have U21 := hidH (U20.out.apart (lo := w.heap.size) (hi := w.heap.size + 1) (Apart.of_onto hO (Nat.le_refl _) (Nat.lt_succ_self _)) (.inr (Nat.le_refl _)))
        have hsz := O20.out.size
        have O21 := hidH (O20.out.trans (hO.below (Nat.le_refl _) hsz))
        have hsz2 := hO.size
        clear hR hO
        go_wp2_with fail
        go_ret2
        exact ⟨_, us, q, rfl, U21.out.mono (Nat.zero_le _) hsz2, h61, O21.out⟩
end Go.Proofs.Ytlicihjjbojpcaa
