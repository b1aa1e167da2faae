/-
  Errata that are sometimes none. Condition: the reader has been asked at most 900000 times.
-/
import Derived.Test.YtlicihjjbojpcaaErrEl
import Derived.Test.YtlicihjjbojpcaaErrEd
namespace Go.Proofs.Ytlicihjjbojpcaa
set_option maxRecDepth 4000
open Go.RowKit
def badAt : List Int := [-1, 60, 59, 0]
def badRi : List Int := [1000000000, 1000000001]
set_option maxHeartbeats 3200000 in
theorem badL_any (r B g : Nat) (ys : List Int) (v : Value) (n : Nat) (F : List Int) (w : World) (h : Rd w r B) (hB : B ≤ 900000) (hys : Blk w g ys) (hgr : r < g) (hown : w.ownsRow (g + 1) 42 3 v n (ints F)) (hn : n ≤ 60) : Calls Try.prog 64 #[.pointer (some ⟨r, 0, none⟩), v] w (fun e w' => ∃ v' n' F', e = .returned v' ∧ Lies3 w' 0 w'.heap.size v' n' F' ∧ n' ≤ 61 ∧ Blk w' g ys ∧ Below r w w') := by
  have hr := h.lt
  have R0 := hidH h
  have Y0 := hidH hys
  have W0 := hidH hown
  have B0 := hidH (Below.refl r w)
  by_cases h0 : n = 0
  · subst h0
    obtain ⟨a, cap, rfl, _, hcm⟩ := lies3_len (row3_of_owns hown (by omega)).lies
    have HL := hidH ((row3_of_owns hown (by omega)).lies)
    have HF : F = [] := List.eq_nil_of_length_eq_zero (by have := HL.out.1; omega)
    subst HF
    unfold maxLen at hcm
    clear h hys hown
    go_enter Try.func64, Try.ntmps64
    go_wp2_with fail
    go_ret
    exact ⟨_, 0, [], rfl, ⟨rfl, a, cap, rfl, Nat.zero_le _, by unfold maxLen; omega, by obtain ⟨_, a2, c2, e, _, _, e4, _⟩ := HL.out; injection e with e1 e2 e3; subst e1; subst e3; exact e4, (Row.nil _ _ _ _ _ (Nat.zero_le _) (fun _ => rfl)).lies⟩, by omega, Y0.out, B0.out⟩
  · obtain ⟨hF, b, cap, rfl, hnc, hcm', hgb, hblk⟩ := own3_blk hown (by omega)
    have F0 := hidH hblk
    have hcm := hcm'
    unfold maxLen at hcm
    have hnz : (n == 0) = false := beq_eq_false_iff_ne.2 h0
    have hnz2 : ((n : Int) == 0) = false := beq_eq_false_iff_ne.2 (by omega)
    obtain ⟨i0, hi0, hz0, hz1, hz2⟩ := info3
    clear h hys hown hblk
    go_enter Try.func64, Try.ntmps64
    go_wp2_with fail
    refine (pick_any (n : Int) r _ w R0.out (by omega)).mono ?_
    rintro e w1 ⟨kk, rfl, kk0, kk1, hR, hO⟩
    have kk2 := kk1 (by omega)
    have R1 := hidH hR
    have B1 := hidH (B0.out.trans (hO.below (Nat.le_refl _) (by have := R0.out.lt; omega)))
    have Y1 := hidH (blk_onto Y0.out hO (by omega))
    have F1 := hidH (blk_onto F0.out hO (by omega))
    have W1 := hidH (owns_onto W0.out hO (by omega))
    clear kk1 hR hO R0 B0 Y0 F0 W0
    obtain ⟨k, rfl⟩ := Int.eq_ofNat_of_zero_le kk0
    have hk3 : k < n := by omega
    go_wp2_with fail
    refine (pick_any 20 r _ w1 R1.out (by omega)).mono ?_
    rintro e w2 ⟨x, rfl, x0, x1, hR, hO⟩
    have x2 := x1 (by omega)
    have R2 := hidH hR
    have B2 := hidH (B1.out.trans (hO.below (Nat.le_refl _) (by have := R1.out.lt; omega)))
    have Y2 := hidH (blk_onto Y1.out hO (by omega))
    have F2 := hidH (blk_onto F1.out hO (by omega))
    have W2 := hidH (owns_onto W1.out hO (by omega))
    clear x1 hR hO R1 B1 Y1 F1 W1
    by_cases e0 : x = 0
    · subst e0
      go_wp2_with fail
      have hN := num_any w2.heap.size 0 badAt r _ (w2.alloc (.cells (intC badAt) 3)) (R2.out.onto ((Below.refl _ _).alloc (Nat.le_refl _) _)) (by omega) (by first | decide | exact Nat.succ_pos _) (by first | decide | exact (show 3 ≤ 1000 from by decide)) (ints_new _ _ _ _ R2.out.lt)
      refine hN.mono ?_
      rintro e w3 ⟨z, hz, rfl, hR, hO⟩
      have R3 := hidH hR
      have hal : Below w2.heap.size w2 (w2.alloc (.cells (intC badAt) 3)) := (Below.refl _ _).alloc (Nat.le_refl _) _
      have hsz := B2.out.size
      have B3 := hidH ((B2.out.trans (hal.mono (show r ≤ _ by have := R2.out.lt; omega))).trans (hO.below (Nat.le_refl _) (by have := R2.out.lt; have := hal.size; omega)))
      have Y3 := hidH (blk_onto (Y2.out.below hal) hO (by omega))
      have F3 := hidH (blk_onto (F2.out.below hal) hO (by omega))
      clear hN hz hR hO hal hsz R2 B2 Y2 F2 W2
      obtain ⟨p, hp⟩ := get_lt F (k * 3) (by omega)
      obtain ⟨hcp, hfp⟩ := F3.out.2 _ p hp
      have FS := hidH (F3.out.set (k * 3) z)
      have YS := hidH (Y3.out.apart (lo := b) (hi := b + 1) (Apart.of_onto (Onto.setCell b (k * 3) w3 (.int .i64 z)) (Nat.le_refl _) (Nat.lt_succ_self _)) (.inl (by omega)))
      have BS := hidH (B3.out.setCell (p := ⟨b, k * 3, none⟩) (by show r ≤ b; omega) (.int .i64 z))
      clear hp
      go_wp2_with fail
      go_ret
      exact ⟨_, n, F.set (k * 3) z, rfl, lies3_blk FS.out (by rw [List.length_set]; exact hF) hnc hcm' (by omega), by omega, YS.out, BS.out⟩
    · have b0 : (x == 0) = false := beq_eq_false_iff_ne.2 e0
      by_cases e1 : x = 1
      · subst e1
        obtain ⟨q, hq⟩ := get_lt F (k * 3 + 2) (by omega)
        have hcq := (F2.out.2 _ q hq).1
        clear hq
        obtain ⟨p, hp⟩ := get_lt F (k * 3 + 1) (by omega)
        obtain ⟨hcp, hfp⟩ := F2.out.2 _ p hp
        have FS := hidH (F2.out.set (k * 3 + 1) q)
        have YS := hidH (Y2.out.apart (lo := b) (hi := b + 1) (Apart.of_onto (Onto.setCell b (k * 3 + 1) w2 (.int .i64 q)) (Nat.le_refl _) (Nat.lt_succ_self _)) (.inl (by omega)))
        have BS := hidH (B2.out.setCell (p := ⟨b, k * 3 + 1, none⟩) (by show r ≤ b; omega) (.int .i64 q))
        clear hp
        go_wp2_with fail
        go_ret
        exact ⟨_, n, F.set (k * 3 + 1) q, rfl, lies3_blk FS.out (by rw [List.length_set]; exact hF) hnc hcm' (by omega), by omega, YS.out, BS.out⟩
      · have b1 : (x == 1) = false := beq_eq_false_iff_ne.2 e1
        by_cases e2 : x = 2
        · subst e2
          obtain ⟨x0', hx0⟩ := get_lt F (k * 3) (by omega)
          obtain ⟨y0', hy0⟩ := get_lt F (k * 3 + 1) (by omega)
          obtain ⟨z0', hz0'⟩ := get_lt F (k * 3 + 2) (by omega)
          have hcA := (F2.out.2 _ _ hx0).1
          have hcW := (F2.out.2 _ _ hy0).1
          have hcR := (F2.out.2 _ _ hz0').1
          clear hx0 hy0 hz0' F2 h0
          have hlt2 := R2.out.lt
          have hg2 := Y2.out.1
          go_wp2_with (at_builtin; refine wpList_append_own _ rfl _ _ 38 rfl (g + 1) 42 i0 _ 3 24 Try.underlying38 hi0 hz0 hz1 hz2 rfl (by decide) _ n (ints F) rfl (W2.out.alloc _) ⟨w2.heap.size, 0, none⟩ 1 1 [.int .i64 x0', .int .i64 y0', .int .i64 z0'] rfl (by rfl) (World.news_of_block (cs := #[.int .i64 x0', .int .i64 y0', .int .i64 z0']) (t := 42) (fr := (0, 0)) (heap_alloc_new w2 _)) (by simp [Value.oneCell']) (by unfold maxLen; omega) (by omega) (by simp; omega) ?_)
          intro v' w7 hown hgrow hnil
          have HBg := hidH (((Below.refl (g + 1) w2).alloc (by omega) (.cells #[.int .i64 x0', .int .i64 y0', .int .i64 z0'] 42)).grown hgrow (by simp; omega) (fun q hq => (W2.out.lt q hq).1))
          have HW := hidH hown
          have HL := hidH ((row3_of_owns (F := F ++ [x0', y0', z0']) (n := n + 1) (lo := g + 1) (by rw [ints_append]; exact hown) (by omega)).lies)
          clear hown hgrow hnil
          go_wp2_with fail
          go_ret
          exact ⟨_, n + 1, _, rfl, (by obtain ⟨e0, a, c, e1, e2, e3, e4, e5⟩ := HL.out; exact ⟨e0, a, c, e1, e2, e3, e4, e5.mono (Nat.zero_le _) (Nat.le_refl _)⟩), by omega, blk_low Y2.out HBg.out, B2.out.trans (HBg.out.mono (by omega))⟩
        · have b2 : (x == 2) = false := beq_eq_false_iff_ne.2 e2
          by_cases e3 : x = 3
          · subst e3
            go_wp2_with fail
            have hN := num_any w2.heap.size 0 badRi r _ (w2.alloc (.cells (intC badRi) 3)) (R2.out.onto ((Below.refl _ _).alloc (Nat.le_refl _) _)) (by omega) (by first | decide | exact Nat.succ_pos _) (by first | decide | exact (show 3 ≤ 1000 from by decide)) (ints_new _ _ _ _ R2.out.lt)
            refine hN.mono ?_
            rintro e w3 ⟨z, hz, rfl, hR, hO⟩
            have R3 := hidH hR
            have hal : Below w2.heap.size w2 (w2.alloc (.cells (intC badRi) 3)) := (Below.refl _ _).alloc (Nat.le_refl _) _
            have hsz := B2.out.size
            have B3 := hidH ((B2.out.trans (hal.mono (show r ≤ _ by have := R2.out.lt; omega))).trans (hO.below (Nat.le_refl _) (by have := R2.out.lt; have := hal.size; omega)))
            have Y3 := hidH (blk_onto (Y2.out.below hal) hO (by omega))
            have F3 := hidH (blk_onto (F2.out.below hal) hO (by omega))
            clear hN hz hR hO hal hsz R2 B2 Y2 F2 W2
            obtain ⟨p, hp⟩ := get_lt F (k * 3 + 2) (by omega)
            obtain ⟨hcp, hfp⟩ := F3.out.2 _ p hp
            have FS := hidH (F3.out.set (k * 3 + 2) z)
            have YS := hidH (Y3.out.apart (lo := b) (hi := b + 1) (Apart.of_onto (Onto.setCell b (k * 3 + 2) w3 (.int .i64 z)) (Nat.le_refl _) (Nat.lt_succ_self _)) (.inl (by omega)))
            have BS := hidH (B3.out.setCell (p := ⟨b, k * 3 + 2, none⟩) (by show r ≤ b; omega) (.int .i64 z))
            clear hp
            go_wp2_with fail
            go_ret
            exact ⟨_, n, F.set (k * 3 + 2) z, rfl, lies3_blk FS.out (by rw [List.length_set]; exact hF) hnc hcm' (by omega), by omega, YS.out, BS.out⟩
          · have b3 : (x == 3) = false := beq_eq_false_iff_ne.2 e3
            go_wp2_with fail
            go_ret
            exact ⟨_, n, F, rfl, lies3_blk F2.out hF hnc hcm' (by omega), by omega, Y2.out, B2.out⟩
end Go.Proofs.Ytlicihjjbojpcaa
