/-
  The draw of a printed table and its errata. Condition: the reader has been asked at most 800000 times.
-/
import Derived.Test.YtlicihjjbojpcaaErrEk
import Derived.Test.YtlicihjjbojpcaaPolyT
namespace Go.Proofs.Ytlicihjjbojpcaa
set_option maxRecDepth 4000
open Go.RowKit
theorem own_down {w : World} {base b2 e size n : Nat} {v : Value} {xs : List Value} (h : w.ownsRow base e size v n xs) (hb : b2 ≤ base) : w.ownsRow b2 e size v n xs := by
  obtain ⟨h1, h2⟩ := h
  refine ⟨h1, ?_⟩
  rcases h2 with h | ⟨g, cap, cur, e1, e2, rest⟩
  · exact .inl h
  · exact .inr ⟨g, cap, cur, e1, Nat.le_trans hb e2, rest⟩
theorem blk_onto {w w' : World} {r b : Nat} {zs : List Int} (H : Blk w b zs) (ho : Onto r w w') (hr : r < b) : Blk w' b zs := H.apart (lo := r) (hi := r + 1) (Apart.of_onto ho (Nat.le_refl _) (Nat.lt_succ_self _)) (.inr hr)
/-- A drawn printed table and its errata, which lie in a row of their own. -/
def SomeErr (r B : Nat) (w : World) (e : Ending) (w' : World) : Prop := ∃ (g gc : Nat) (ys : List Int) (v : Value) (n : Nat) (F : List Int), e = .returned (.tuple #[.slice (some ⟨g, 0, none⟩) ys.length gc, v]) ∧ Blk w' g ys ∧ ys.length ≤ gc ∧ gc ≤ maxLen ∧ w.heap.size ≤ g ∧ 1 ≤ ys.length ∧ ys.length ≤ 14 ∧ w'.ownsRow (g + 1) 42 3 v n (ints F) ∧ n ≤ 60 ∧ Rd w' r (B + 80) ∧ Onto r w w'
set_option maxHeartbeats 1600000 in
theorem list4_any (r B : Nat) (w : World) (h : Rd w r B) (hB : B ≤ 800000) : Calls Try.prog 63 #[.pointer (some ⟨r, 0, none⟩)] w (SomeErr r B w) := by
  have hr := h.lt
  have HR := hidH h
  clear h
  go_enter Try.func63, Try.ntmps63
  go_wp2_with fail
  refine (tab_any r B w HR.out hB).mono ?_
  rintro e w1 ⟨v, zs, rfl, hrow, hz1, hz14, hR, hO⟩
  obtain ⟨g, gc, rfl, hgc, hgm, hg1, hg2, hblk⟩ := hrow.blk (by omega)
  have K1 := hidH hblk
  have R1 := hidH hR
  have O1 := hidH hO
  have s1 := hO.size
  obtain ⟨i0, hi0, hz0, hzc, hz2⟩ := info_parts infoInt
  have HC0 := hidH (cells_map (b := g) (off := 0) (zs := zs) (w := w1) (fun j z hj => by rw [Nat.zero_add]; exact (hblk.2 j z hj).1))
  have HO1 := hidH (oneCells zs)
  unfold maxLen at hgm
  clear hrow hR hO hblk HR
  go_wp2_with (at_builtin; refine wpList_append_own _ rfl _ _ 23 rfl w1.heap.size 3 i0 (.int .i64 0) 1 8 Try.underlying23 hi0 hz0 hzc hz2 rfl (by decide) _ _ _ rfl (World.ownsRow_made w1 #[] 0 (Nat.le_refl _) (Nat.zero_le _) rfl) ⟨g, 0, none⟩ zs.length gc (ints zs) rfl ?qc1 ?qc2 HO1.out ?qc4 ?qc5 ?qc6 ?_)
  case qc1 => rw [ints_length, Nat.mul_one]
  case qc2 => exact HC0.out _ ((Below.refl _ _).alloc (Nat.le_refl _) _)
  case qc4 => unfold maxLen; omega
  case qc5 => omega
  case qc6 => simp
  intro v' w2 hown hgrow hnil
  have HB2 := hidH (((Below.refl w1.heap.size w1).alloc (Nat.le_refl _) (.cells #[] 3)).grown hgrow (by simp) (by intro k hk; simp [Value.ownBlock] at hk; omega))
  have hr2 := (row_of_owns hown).1
  obtain ⟨b8, c8, rfl, hlc8, hcm8, hlo8, hhi8, hblk⟩ := hr2.blk (by omega)
  have K8 := hidH hblk
  have K2 := hidH (K1.out.below HB2.out)
  have R2 := hidH (R1.out.onto HB2.out)
  have O2 := hidH (O1.out.trans (.of_below HB2.out))
  have s2 := HB2.out.size
  have hgw := K1.out.1
  unfold maxLen at hcm8
  clear hown hgrow hnil hr2 hblk HC0 HO1 K1 R1 O1 HB2
  go_wp2_with fail
  refine (pick_any 4 r _ w2 R2.out (by omega)).mono ?_
  rintro e w3 ⟨x, rfl, x0, x1, hR, hO⟩
  have x2 := x1 (by omega)
  obtain ⟨m0, rfl⟩ := Int.eq_ofNat_of_zero_le x0
  have R3 := hidH hR
  have O3 := hidH (O2.out.trans hO)
  have K3 := hidH (blk_onto K2.out hO (by omega))
  have K9 := hidH (blk_onto K8.out hO (by omega))
  clear hR hO x1 R2 O2 K2 K8
  go_wp2_with fail
  go_loopw [6] (fun i wr => ∃ (m : Nat) (ys : List Int), m ≤ 3 ∧ i = .int .i64 m ∧ ys.length = zs.length ∧ Blk wr b8 ys ∧ Blk wr g zs ∧ Rd wr r (B + 41 + 2 * (3 - m)) ∧ Onto r w wr) (fun i _ => (intOf i).toNat)
  case atStart => exact ⟨m0, zs, by omega, rfl, rfl, K9.out, K3.out, R3.out.more (by omega), O3.out⟩
  case round =>
    obtain ⟨m, ys, hm, rfl, hyl, hB8, hBg, hR, hO⟩ := hrel
    have K8 := hidH hB8
    have KG := hidH hBg
    have RR := hidH hR
    have OO := hidH hO
    have sr := hO.size
    have HYL := hidH hyl
    clear hB8 hBg hR hO
    by_cases h0 : m = 0
    · subst h0
      have hb8 := K8.out.1
      have LG := hidH ((KG.out.row (lo := 0) (hi := wr.heap.size) (cap := gc) (n := zs.length) (Nat.zero_le _) KG.out.1 hgc (by unfold maxLen; omega) rfl).lies)
      have LP := hidH ((K8.out.row (lo := 0) (hi := wr.heap.size) (cap := c8) (n := zs.length) (Nat.zero_le _) K8.out.1 (by omega) (by unfold maxLen; omega) hyl.symm).lies)
      clear hyl
      go_wp2_with fail
      refine (sErrataO_any _ zs _ ys wr _ _ _ _ LG.out LP.out).mono ?_
      rintro e w9 ⟨u, rfl, hown, hb⟩
      have HW := hidH (own_down hown (show b8 + 1 ≤ wr.heap.size by omega))
      have K10 := hidH (K8.out.below hb)
      have R10 := hidH (RR.out.onto hb)
      have O10 := hidH (OO.out.trans (.of_below hb))
      have hn := errataN_le zs ys
      clear hown hb
      go_wp2_with fail
      go_ret2
      exact ⟨b8, c8, ys, u, _, _, by rw [HYL.out]; rfl, K10.out, by rw [HYL.out]; omega, by unfold maxLen; omega, by omega, by rw [HYL.out]; omega, by rw [HYL.out]; omega, HW.out, hn, R10.out.more (by omega), O10.out⟩
    · clear hyl
      go_wp2_with fail
      refine (pick_any (zs.length : Int) r _ wr RR.out (by omega)).mono ?_
      rintro e w4 ⟨x, rfl, y0, y1, hR, hO⟩
      have y2 := y1 (by omega)
      obtain ⟨k, rfl⟩ := Int.eq_ofNat_of_zero_le y0
      have R4 := hidH hR
      have O4 := hidH (OO.out.trans hO)
      have P4 := hidH (blk_onto K8.out hO (by omega))
      have G4 := hidH (blk_onto KG.out hO (by omega))
      clear hR hO y1 RR OO K8 KG
      go_wp2_with fail
      refine (pick_any 90 r _ w4 R4.out (by omega)).mono ?_
      rintro e w5 ⟨z, rfl, z0, z1, hR, hO⟩
      have R5 := hidH hR
      have O5 := hidH (O4.out.trans hO)
      have P5 := hidH (blk_onto P4.out hO (by omega))
      have G5 := hidH (blk_onto G4.out hO (by omega))
      clear hR hO z1 R4 O4 P4 G4
      obtain ⟨y, hy⟩ := get_lt ys k (by have := HYL.out; omega)
      obtain ⟨hcy, hfy⟩ := P5.out.2 k y hy
      have P6 := hidH (P5.out.set k z)
      have R6 := hidH (R5.out.low ((Below.refl (r + 1) w5).setCell (p := ⟨b8, k, none⟩) (by show r + 1 ≤ b8; omega) (.int .i64 z)))
      have O6 := hidH (onto_setNew O5.out (show w.heap.size ≤ b8 by omega) k (.int .i64 z))
      have G6 := hidH (G5.out.apart (lo := b8) (hi := b8 + 1) (Apart.of_onto (Onto.setCell b8 k w5 (.int .i64 z)) (Nat.le_refl _) (Nat.lt_succ_self _)) (.inl (by omega)))
      clear hy
      go_wp2_with fail
      go_roundw
      case rel => exact ⟨m - 1, ys.set k z, by omega, by rw [show ((m - 1 : Nat) : Int) = (m : Int) - 1 by omega], by rw [List.length_set]; exact HYL.out, P6.out, G6.out, R6.out.more (by omega), O6.out⟩
      case measure => simp [intOf]; omega
end Go.Proofs.Ytlicihjjbojpcaa
