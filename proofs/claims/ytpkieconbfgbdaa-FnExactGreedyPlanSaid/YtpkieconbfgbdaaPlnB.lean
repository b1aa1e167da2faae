/-
  The laws' conversion of rows of segments. Condition: at most 1048576 segments, of at most 1048576 differences.
-/
import Derived.Test.YtpkieconbfgbdaaPlnA
import Derived.Laws.MakeOwn
namespace Go.Proofs.Ytpkieconbfgbdaa
set_option maxRecDepth 4000
open Go.RowKit
set_option maxHeartbeats 800000 in
theorem toSeg_any (c : Int) (v : Value) (zs : List Int) (w : World) (hz : Lies w 0 w.heap.size v zs) (hn : zs.length ≤ 1048576) : Calls Try.prog 46 #[.agg #[.int .i64 c, v]] w fun e w' => ∃ a cap, e = .returned (.agg #[.int .i64 c, .slice a zs.length cap]) ∧ Row w' (w.heap.size + 1) w'.heap.size (.slice a zs.length cap) zs ∧ Below w.heap.size w w' := by
  have HS := hidH (fun W (h : Lies W 0 W.heap.size v zs) => toInts_any v zs W h hn)
  have HL := hidH hz
  obtain ⟨a, cap, rfl⟩ := hz.some
  clear hz
  have BB := hidH ((bMore ((bMore ((bMore (Below.refl w.heap.size w) (.cells #[.int .i64 c, .slice a zs.length cap] 57))) (.cells #[.int .i64 0, .slice none 0 0] 46))) (.cells #[.int .i64 c, .slice none 0 0] 46)))
  have E1 := hidH ((SegAt.newAt (w.alloc (.cells #[.int .i64 c, .slice a zs.length cap] 57)) 0 (.slice none 0 0) (w.heap.size + 1) (by simp)).alloc (.cells #[.int .i64 c, .slice none 0 0] 46))
  have E2 := hidH (SegAt.newAt ((w.alloc (.cells #[.int .i64 c, .slice a zs.length cap] 57)).alloc (.cells #[.int .i64 0, .slice none 0 0] 46)) c (.slice none 0 0) (w.heap.size + 1 + 1) (by simp))
  go_enter Try.func46, Try.ntmps46
  go_wp2_with fail
  refine (HS.out _ ((HL.out.below BB.out).mono (Nat.le_refl _) BB.out.size)).mono ?_; rintro e w1 ⟨u, rfl, hr, hb⟩
  have F1 := hidH (E1.out.below hb)
  have F2 := hidH (E2.out.below hb)
  have HR := hidH (hr.mono (show w.heap.size + 3 ≤ _ by simp) (Nat.le_refl _))
  have HB := hidH (bThen BB.out hb)
  obtain ⟨a', cap', rfl⟩ := hr.some
  have c2 := F2.out.cell1
  have f2 := F2.out.free 1
  have G2 := hidH (F2.out.put1 (.slice a' zs.length cap'))
  have G1 := hidH (F1.out.other ⟨w.heap.size + 1 + 1, 1, none⟩ (.slice a' zs.length cap') (by show w.heap.size + 1 ≠ w.heap.size + 1 + 1; omega))
  have HBs := hidH (HB.out.setCell (p := ⟨w.heap.size + 1 + 1, 1, none⟩) (by show w.heap.size ≤ w.heap.size + 1 + 1; omega) (.slice a' zs.length cap'))
  have HRs := hidH (HR.out)
  clear hr hb
  have SZ := hidH (seg_size c (.slice a' zs.length cap'))
  have SO := hidH (seg_one c a' zs.length cap')
  have HX := hidH (show w.heap.size + 1 + 1 < w1.heap.size from F2.out.lt)
  go_wp2_with (first | (refine wpList_load_row rfl 46 _ rfl (w.heap.size + 1 + 1) rfl 46 _ (0, 0) _ G2.out Try.underlying46 rfl SZ.out ?_) | (refine wpList_store_row rfl 46 _ _ rfl (w.heap.size + 1) #[.int .i64 c, .slice a' zs.length cap'] rfl rfl 46 _ G1.out SZ.out rfl SO.out ?_))
  refine bodyPost_ret (results_seg Try.results46 _ _ (w.heap.size + 1) c _ rfl (G1.out.setRow _ _)) rfl ?_
  exact ⟨_, _, rfl, ((HRs.out.apart (Apart.of_onto (lo := w.heap.size + 1) (hi := w.heap.size + 3) (Onto.setCell (w.heap.size + 1 + 1) 1 w1 _) (by omega) (by omega)) (.inr (Nat.le_refl _))).apart (Apart.of_onto (lo := w.heap.size + 1) (hi := w.heap.size + 3) (ontoRow (w.heap.size + 1) _ _) (by omega) (by omega)) (.inr (Nat.le_refl _))).mono (by omega) (by simp), bRow HBs.out (by omega) _⟩
def nextL (L : Nat → Nat) (k s j : Nat) : Nat := if j ≤ k then L j else s
theorem nextL_le {L : Nat → Nat} {k s j : Nat} (h : j ≤ k) : nextL L k s j = L j := if_pos h
theorem nextL_gt {L : Nat → Nat} {k s j : Nat} (h : ¬ j ≤ k) : nextL L k s j = s := if_neg h
/-- Block b holds the first k segments; the other cells are as they were made. -/
def SgTo (w : World) (b n : Nat) (L : Nat → Nat) (cs : List (Int × List Int)) (k : Nat) : Prop := (∀ i, i < n * 2 → (∃ x, w.cell? ⟨b, i, none⟩ = some x) ∧ w.frozen? ⟨b, i, none⟩ = false) ∧ (∀ j, j < k → L j ≤ L (j + 1)) ∧ b < L 0 ∧ L k = w.heap.size ∧
  ∀ (j : Nat) c zs, j < k → cs[j]? = some (c, zs) → ∃ u, w.cell? ⟨b, j * 2, none⟩ = some (.int .i64 c) ∧ w.cell? ⟨b, j * 2 + 1, none⟩ = some u ∧ Row w (L j) (L (j + 1)) u zs
theorem info_sg : (Try.prog.info? 46).map (fun i => (i.zero, i.size, i.bytes)) = some (some (.agg #[.int .i64 0, .slice none 0 0]), 2, 32) := by kernel_rfl
theorem made_sg (m i : Nat) (h : i < m * 2) : ∃ x, (madeCells #[.int .i64 0, .slice none 0 0] (m * 2))[i]? = some x := by
  have : i < (madeCells #[Value.int .i64 0, .slice none 0 0] (m * 2)).size := by simp [madeCells]; omega
  exact ⟨_, Array.getElem?_eq_getElem this⟩
set_option maxHeartbeats 1600000 in
theorem toSgs_any (v : Value) (cs : List (Int × List Int)) (w : World) (hv : LiesSg w w.heap.size v cs) (hn : cs.length ≤ 1048576) (hz : ∀ c zs, (c, zs) ∈ cs → zs.length ≤ 1048576) : Calls Try.prog 22 #[v] w (NewSg cs w) := by
  have HV := hidH hv
  have HZ := hidH hz
  obtain ⟨a, cap, rfl, hlc, hcm⟩ := hv.len
  unfold maxLen at hcm
  clear hv hz
  generalize hnn : cs.length = n at *
  have HN := hidH hnn
  clear hnn
  obtain ⟨i0, hi0, hz0, hz1, hz2⟩ := info_parts info_sg
  have hmk : (Instr.makeSlice 23 (.int .i64 (n : Int)) (.int .i64 (n : Int))).run Try.prog w = .ok (.slice (some ⟨w.heap.size, 0, none⟩) n n) (w.alloc (.cells (madeCells #[.int .i64 0, .slice none 0 0] (n * 2)) 46)) := by
    have hr := run_make (P := Try.prog) (w := w) 23 46 i0 _ Try.underlying23 hi0 hz0 .i64 .i64 n n (by omega) (Int.le_refl _) (by rw [hz2]; omega) (by omega)
    rw [hz1] at hr
    simpa [Value.cells] using hr
  clear hi0 hz0 hz1 hz2
  have HM := hidH (show SgTo (w.alloc (.cells (madeCells #[.int .i64 0, .slice none 0 0] (n * 2)) 46)) w.heap.size n (fun _ => w.heap.size + 1) cs 0 from ⟨fun i hi => ⟨by
      obtain ⟨x, hx⟩ := made_sg n i hi
      exact ⟨x, by rw [World.cell?_alloc_at _ _ _ _ rfl]; exact hx⟩, cells_frozen _ _ _ _⟩, fun _ h => absurd h (Nat.not_lt_zero _), Nat.lt_succ_self _, by simp, fun _ _ _ h => absurd h (Nat.not_lt_zero _)⟩)
  go_enter Try.func22, Try.ntmps22
  go_wp2_with fail
  go_loopw [4] (fun i wr => ∃ (k : Nat) (L : Nat → Nat), k ≤ n ∧ i = .int .i64 k ∧ SgTo wr w.heap.size n L cs k ∧ Below w.heap.size w wr) (fun i _ => n - (intOf i).toNat)
  case atStart => exact ⟨0, _, Nat.zero_le _, rfl, HM.out, (Below.refl _ _).alloc (Nat.le_refl _) _⟩
  case round =>
    obtain ⟨k, L, hk, rfl, hs, hb⟩ := hrel
    have HS := hidH hs
    have Hb := hidH hb
    clear hs hb
    by_cases hlt : k < n
    · have hlk : k < cs.length := by rw [HN.out]; exact hlt
      obtain ⟨b, off, cc1, e, _, _, _, hcl⟩ := HV.out.addr (by omega)
      injection e with e1 e2 e3
      subst e1; subst e3
      clear e2
      obtain ⟨x, hx⟩ : ∃ x, cs[k]? = some x := ⟨cs[k], List.getElem?_eq_getElem hlk⟩
      obtain ⟨c, zs⟩ := x
      obtain ⟨p, q0, q1, q2⟩ := hcl k c zs hx
      have c0 : wr.cell? ⟨b, off + k * 2, none⟩ = some (.int .i64 c) := by rw [Hb.out.cell (p := ⟨b, off + k * 2, none⟩) (cell_blk _ _ _ q0)]; exact q0
      have c1 : wr.cell? ⟨b, off + k * 2 + 1, none⟩ = some p := by rw [Hb.out.cell (p := ⟨b, off + k * 2 + 1, none⟩) (cell_blk _ _ _ q1)]; exact q1
      have HP := hidH ((q2.below Hb.out).mono (Nat.le_refl _) Hb.out.size)
      have hzl := HZ.out c zs (List.mem_of_getElem? hx)
      have HX := hidH hx
      clear hcl q0 q1 q2 hx hlk
      go_wp2_with fail
      refine (toSeg_any c p zs _ HP.out hzl).mono ?_; rintro e w3 ⟨ua, uc, rfl, hr, hb⟩
      have hs3 := hb.size
      obtain ⟨s1, s2, s3, s4, s5⟩ := HS.out
      have hbw : w.heap.size < wr.heap.size := by have := s4; have := mono_to s2 0 k (Nat.zero_le _) (Nat.le_refl _); omega
      have S1 := hidH (fun i (hi : i < n * 2) => show (∃ x, w3.cell? ⟨w.heap.size, i, none⟩ = some x) ∧ w3.frozen? ⟨w.heap.size, i, none⟩ = false from by
        rw [hb.cell (p := ⟨w.heap.size, i, none⟩) hbw, World.frozen?_of_block (w := wr) (hb.block w.heap.size hbw)]; exact s1 i hi)
      have S5 := hidH (fun (j : Nat) c zs (hj : j < k) (h : cs[j]? = some (c, zs)) => show ∃ u, w3.cell? ⟨w.heap.size, j * 2, none⟩ = some (.int .i64 c) ∧ w3.cell? ⟨w.heap.size, j * 2 + 1, none⟩ = some u ∧ Row w3 (L j) (L (j + 1)) u zs from by
        obtain ⟨u, g0, g1, g2⟩ := s5 j c zs hj h
        exact ⟨u, by rw [hb.cell (p := ⟨w.heap.size, j * 2, none⟩) hbw]; exact g0, by rw [hb.cell (p := ⟨w.heap.size, j * 2 + 1, none⟩) hbw]; exact g1, g2.below hb⟩)
      have HR := hidH hr
      have Hb3 := hidH (Hb.out.trans (hb.mono Hb.out.size))
      have S2 := hidH s2
      have S34 := hidH (And.intro s3 s4)
      have hb3 : w.heap.size < w3.heap.size := by omega
      obtain ⟨⟨x0, d0⟩, f0⟩ := S1.out (k * 2) (by omega)
      obtain ⟨⟨x1, d1⟩, f1⟩ := S1.out (k * 2 + 1) (by omega)
      clear hr hb c0 c1 HP s1 s2 s3 s4 s5 HS
      go_wp2_with fail
      go_roundw
      case rel =>
        obtain ⟨s3, s4⟩ := S34.out
        have hset : ∀ (p : Addr) (y : Value), p.block = w.heap.size → Onto w.heap.size w3 (w3.setCell p y) := by
          rintro ⟨pb, pi, ps⟩ y rfl
          exact ⟨rfl, rfl, rfl, by simp, fun q _ hq => by rw [heap_setCell_other _ _ _ _ hq]⟩
        refine ⟨k + 1, nextL L k w3.heap.size, by omega, by go_num, ⟨fun i hi => ⟨?_, by simpa using (S1.out i hi).2⟩, fun j hj => ?_, ?_, ?_, fun j c' zs' hj h => ?_⟩, (Hb3.out.setCell (Nat.le_refl _) _).setCell (Nat.le_refl _) _⟩
        · obtain ⟨x, hx⟩ := (S1.out i hi).1
          by_cases e1 : i = k * 2 + 1
          · subst e1
            exact ⟨_, World.cell?_setCell_same _ _ _ (by rw [World.cell?_setCell_other _ _ _ _ (by intro h; injection h; omega)]; exact hx)⟩
          · by_cases e0 : i = k * 2
            · subst e0
              exact ⟨_, by rw [World.cell?_setCell_other _ _ _ _ (by intro h; injection h; omega)]; exact World.cell?_setCell_same _ _ _ hx⟩
            · exact ⟨x, by rw [World.cell?_setCell_other _ _ _ _ (by intro h; injection h; omega), World.cell?_setCell_other _ _ _ _ (by intro h; injection h; omega)]; exact hx⟩
        · by_cases e : j = k
          · subst e; rw [nextL_le (Nat.le_refl _), nextL_gt (by omega), s4]; exact hs3
          · rw [nextL_le (by omega), nextL_le (by omega)]; exact S2.out j (by omega)
        · rw [nextL_le (Nat.zero_le _)]; exact s3
        · rw [nextL_gt (by omega)]; simp
        · have hA : Apart w.heap.size (w.heap.size + 1) w3 ((w3.setCell ⟨w.heap.size, k * 2, none⟩ (.int .i64 c)).setCell ⟨w.heap.size, k * 2 + 1, none⟩ (.slice ua zs.length uc)) :=
            (Apart.of_onto (Onto.setCell w.heap.size (k * 2) w3 _) (Nat.le_refl _) (Nat.lt_succ_self _)).trans (Apart.of_onto (Onto.setCell w.heap.size (k * 2 + 1) _ _) (Nat.le_refl _) (Nat.lt_succ_self _))
          have hm := fun i (hi : i ≤ k) => mono_to S2.out 0 i (Nat.zero_le _) hi
          by_cases e : j = k
          · subst e
            rw [HX.out] at h
            injection h with h
            injection h with h1 h2
            subst h1; subst h2
            refine ⟨_, ?_, World.cell?_setCell_same _ _ _ (by rw [World.cell?_setCell_other _ _ _ _ (by intro h; injection h; omega)]; exact d1), ?_⟩
            · rw [World.cell?_setCell_other _ _ _ _ (by intro h; injection h; omega)]; exact World.cell?_setCell_same _ _ _ d0
            · rw [nextL_le (Nat.le_refl _), nextL_gt (by omega), s4]
              exact (HR.out.apart hA (.inr (by omega))).mono (by omega) (Nat.le_refl _)
          · obtain ⟨u, g0, g1, g2⟩ := S5.out j c' zs' (by omega) h
            refine ⟨u, ?_, ?_, ?_⟩
            · rw [World.cell?_setCell_other _ _ _ _ (by intro h; injection h; omega), World.cell?_setCell_other _ _ _ _ (by intro h; injection h; omega)]; exact g0
            · rw [World.cell?_setCell_other _ _ _ _ (by intro h; injection h; omega), World.cell?_setCell_other _ _ _ _ (by intro h; injection h; omega)]; exact g1
            · rw [nextL_le (by omega), nextL_le (by omega)]
              exact g2.apart hA (.inr (by have := hm j (by omega); omega))
      case measure => simp [intOf]; omega
    · obtain rfl : k = n := by omega
      go_wp2_with fail
      go_ret
      obtain ⟨s1, s2, s3, s4, s5⟩ := HS.out
      have hk' := HN.out
      refine ⟨_, rfl, ⟨some ⟨w.heap.size, 0, none⟩, k, L, by rw [hk']; rfl, by rw [hk']; exact Nat.le_refl _, by unfold maxLen; omega, (fun e => by cases e), by rw [hk']; exact s2, by omega, by rw [hk', s4]; exact Nat.le_refl _, fun j c zs hj => ?_⟩, Hb.out⟩
      have hjl := (List.getElem?_eq_some_iff.1 hj).1
      obtain ⟨u, g0, g1, g2⟩ := s5 j c zs (by omega) hj
      exact ⟨_, u, rfl, Nat.le_refl _, by have := mono_to s2 0 k (Nat.zero_le _) (Nat.le_refl _); omega, s3, g0, (s1 (j * 2) (by omega)).2, g1, (s1 (j * 2 + 1) (by omega)).2, g2⟩
end Go.Proofs.Ytpkieconbfgbdaa
