/-
  GreedySchedule: the program and the model, at every argument. No conditions but that slices fit in memory.
-/
import Derived.Test.YtcinhmfjnjecdaaDskD
import Derived.Laws.AppendOwn
import Derived.StillTactics
import Derived.OwnWalk
import Derived.Laws.Pointers
import Derived.Deep.RegionHeld3
import Derived.Deep.AppendLies
namespace Go.Proofs.Ytcinhmfjnjecdaa
set_option maxRecDepth 4000
open Go.RowKit
theorem greedyA_no {T : List Int} {n : Int} (h : (timesOk T && nEngOk n) = false) : greedyA T n = [] := by unfold greedyA; rw [h]; rfl
theorem greedyA_yes {T : List Int} {n : Int} (h1 : timesOk T = true) (h2 : nEngOk n = true) : greedyA T n = greedyF T n.toNat T.length := by unfold greedyA; rw [h1, h2]; rfl
theorem greedyA_len (T : List Int) (n : Int) : (greedyA T n).length ≤ 1048576 := by
  unfold greedyA
  split
  · rename_i h
    rw [Bool.and_eq_true] at h
    have := (timesOk_parts h.1).1
    rw [greedyF_length]; omega
  · simp
/-- The loads after k times, and the next engine. -/
theorem greedy_free (T : List Int) (m n k : Nat) (h : k < n) (hm : m ≤ 3) : (greedyF T m n)[k]? = some (freeI ((loadsL (T.take k) ((greedyF T m n).take k) 3).take m) : Int) := by
  have e : (loadsL (T.take k) ((greedyF T m n).take k) 3).take m = loadsL (T.take k) (greedyF T m k) m := by
    rw [greedyF_take T m n k (by omega)]
    apply List.ext_getElem?
    intro j
    rw [List.getElem?_take]
    by_cases c : j < m
    · rw [if_pos c, loadsL_get _ _ _ _ c, loadsL_get _ _ _ _ (by omega)]
    · rw [if_neg c, List.getElem?_eq_none (by rw [loadsL_length]; omega)]
  rw [e]
  exact greedyF_get T m n k h
theorem list_take_at (L : List Int) (k : Nat) (x : Int) (h : L[k]? = some x) : (L.take (k + 1) ++ List.replicate (L.length - (k + 1)) 0)[k]? = some x := by
  have hk := (List.getElem?_eq_some_iff.1 h).1
  rw [List.getElem?_append_left (by rw [List.length_take]; omega), List.getElem?_take, if_pos (by omega)]
  exact h
theorem blk_other {w : World} {b : Nat} {zs : List Int} (H : Blk w b zs) (c k : Nat) (v : Value) (hne : b ≠ c) : Blk (w.setCell ⟨c, k, none⟩ v) b zs :=
  ⟨by simpa [World.setCell] using H.1, fun j z hj => ⟨by rw [World.cell?_setCell_other _ _ _ _ (by intro h; injection h; omega)]; exact (H.2 j z hj).1, by simpa using (H.2 j z hj).2⟩⟩
set_option maxHeartbeats 1600000 in
theorem greedyS_any (v0 : Value) (zs0 : List Int) (n : Int) (w : World) (lo0 hi0 : Nat) (hv0 : Lies w lo0 hi0 v0 zs0) : Calls Try.prog 17 #[v0, .int .i64 n] w (NewRow (greedyA zs0 n) w) := by
  have HT := hidH (timesV_any v0 zs0 w lo0 hi0 hv0)
  have HE := hidH (engV_any n w)
  obtain ⟨a0, cap0, rfl, hlc0, hcm0, _, hcell0⟩ := hv0
  unfold maxLen at hcm0
  have HC0 := hidH hcell0
  clear hcell0
  cases h1 : timesOk zs0
  · have HR := hidH (greedyA_no (T := zs0) (n := n) (by rw [h1]; rfl))
    rw [h1] at HT
    clear h1
    go_enter Try.func17, Try.ntmps17
    go_wp2_with fail
    refine HT.out.mono ?_; rintro e w1 ⟨rfl, rfl⟩
    go_wp2_with fail
    go_ret
    rw [HR.out]
    exact ⟨_, rfl, Row.nil _ _ _ _ _ (Nat.zero_le _) (fun _ => rfl), Below.refl _ _⟩
  · cases h2 : nEngOk n
    · have HR := hidH (greedyA_no (T := zs0) (n := n) (by rw [h2, Bool.and_false]))
      rw [h1] at HT
      rw [h2] at HE
      clear h1 h2
      go_enter Try.func17, Try.ntmps17
      go_wp2_with fail
      refine HT.out.mono ?_; rintro e w1 ⟨rfl, rfl⟩
      go_wp2_with fail
      refine HE.out.mono ?_; rintro e w1 ⟨rfl, rfl⟩
      go_wp2_with fail
      go_ret
      rw [HR.out]
      exact ⟨_, rfl, Row.nil _ _ _ _ _ (Nat.zero_le _) (fun _ => rfl), Below.refl _ _⟩
    · rw [h1] at HT
      rw [h2] at HE
      have H1 := hidH h1
      have ⟨n1, n2⟩ := of_decide_eq_true h2
      have ⟨t1, _⟩ := timesOk_parts h1
      rw [greedyA_yes h1 h2]
      obtain ⟨m, rfl⟩ : ∃ m : Nat, n = (m : Int) := ⟨n.toNat, by omega⟩
      rw [Int.toNat_natCast]
      clear h1 h2
      have hm3 : m ≤ 3 := by omega
      have hm1 : 1 ≤ m := by omega
      have HLL := hidH (greedyF_length zs0 m zs0.length)
      have HGF := hidH (fun k (h : k < zs0.length) => greedy_free zs0 m zs0.length k h hm3)
      have HGI := hidH (fun j (g : Int) h => greedyF_in zs0 m zs0.length j g (by omega) h)
      generalize greedyF zs0 m zs0.length = L at *
      have HAT0 := hidH (At3.made w 50)
      have HM := hidH (Blk.made (w.alloc (.cells #[.int .i64 0, .int .i64 0, .int .i64 0] 50)) 3 zs0.length)
      have hmk := run_make_row' (P := Try.prog) 23 3 (.int .i64 0) 8 Try.underlying23 infoInt rfl .i64 .i64 zs0.length (by omega) (by omega) (w.alloc (.cells #[.int .i64 0, .int .i64 0, .int .i64 0] 50))
      go_enter Try.func17, Try.ntmps17
      go_wp2_with fail
      refine HT.out.mono ?_; rintro e w1 ⟨rfl, rfl⟩
      go_wp2_with fail
      refine HE.out.mono ?_; rintro e w1 ⟨rfl, rfl⟩
      go_wp2_with fail
      go_loopw [22] (fun i wr => ∃ k : Nat, k ≤ zs0.length ∧ i = .int .i64 k ∧ At3 wr w.heap.size 0 (loadsL (zs0.take k) (L.take k) 3) ∧ Blk wr (w.heap.size + 1) (fill L k) ∧ Below w.heap.size w wr) (fun i _ => zs0.length - (intOf i).toNat)
      case atStart =>
        refine ⟨0, Nat.zero_le _, rfl, ?_, ?_, bMore (bMore (Below.refl _ _) _) _⟩
        · rw [loadsL_zero]; exact HAT0.out.below ((Below.refl _ _).alloc (Nat.le_refl _) _) (by simp) (by simp)
        · have h := HM.out
          rw [fill_zero, HLL.out]
          simpa using h
      case round =>
        obtain ⟨k, hk, rfl, hat, hblk, hb⟩ := hrel
        have HAT := hidH hat
        have HBK := hidH hblk
        have HBq := hidH hb
        clear hat hblk hb
        have hsz := HBK.out.1
        by_cases hlt : k < zs0.length
        · obtain ⟨t, ht⟩ := get_lt zs0 k hlt
          obtain ⟨b0, o0, rfl, _, _, hc0⟩ := HC0.out k t ht
          have l0 := cell_blk _ _ _ hc0
          have c0 : wr.cell? ⟨b0, o0 + k, none⟩ = some (.int .i64 t) := by rw [HBq.out.cell (p := ⟨b0, o0 + k, none⟩) l0]; exact hc0
          have hbd := (timesOk_parts H1.out).2 k t ht
          obtain ⟨g, hg⟩ := get_lt L k (by rw [HLL.out]; exact hlt)
          have HG := hidH hg
          have hgf := HGF.out k hlt
          rw [hg] at hgf
          injection hgf with hgf
          have hgi := HGI.out k g hg
          have HFF := hidH (freeFirst_any w.heap.size 0 _ m wr HAT.out hm1 hm3)
          have e0 : ((loadsL (zs0.take k) (L.take k) 3).take m).length = m := by rw [List.length_take, loadsL_length]; omega
          generalize freeI ((loadsL (zs0.take k) (L.take k) 3).take m) = f at *
          subst hgf
          have hf3 : f < 3 := by omega
          obtain ⟨ho, hfz⟩ := HBK.out.2 k 0 (fill_at _ _ (by rw [HLL.out]; exact hlt))
          have HFS := hidH (fill_set L k (f : Int) hg)
          have HNX := hidH (loadsL_next zs0 L k 3 f t ht hg)
          have HXB := hidH (load_bd (G := L.take k) (f : Int) k H1.out)
          have HGX := hidH (loadsL_get (zs0.take k) (L.take k) 3 f hf3)
          generalize loadE (zs0.take k) (L.take k) (f : Int) = x at *
          clear hg ht hc0 e0
          go_wp2_with fail
          refine HFF.out.mono ?_; rintro e w1 ⟨rfl, q, rfl⟩
          have HB1 := hidH (HBK.out.drewN q)
          have HA1 := hidH (HAT.out.drewN q)
          have HBw := hidH (below_drewN HBq.out q)
          have c0' : (wr.drewN q).cell? ⟨b0, o0 + k, none⟩ = some (.int .i64 t) := by rw [World.cell?_drewN]; exact c0
          obtain ⟨ho1, hf1⟩ := HB1.out.2 k 0 (fill_at _ _ (by rw [HLL.out]; exact hlt))
          have hsz1 : w.heap.size + 1 < (wr.drewN q).heap.size := by simpa using hsz
          clear HFF c0 ho hfz HBK HAT HBq hsz
          generalize wr.drewN q = wr at *
          have HB2 := hidH (HB1.out.set k (f : Int))
          have HA2 := hidH (HA1.out.other (w.heap.size + 1) k (.int .i64 (f : Int)) (Or.inl (by omega)))
          have HB2w := hidH (HBw.out.setCell (p := ⟨w.heap.size + 1, k, none⟩) (Nat.le_succ _) (.int .i64 (f : Int)))
          have c2 := (HB2.out.2 k f (by rw [HFS.out, fill]; exact list_take_at L k f HG.out)).1
          have HBK2 := hidH (book_any w.heap.size 0 _ f x t _ HA2.out HGX.out (by have := HXB.out; omega) (by omega))
          go_wp2_with fail
          refine HBK2.out.mono ?_; rintro e w2 ⟨rfl, q2, rfl⟩
          go_wp2_with fail
          go_roundw
          case rel =>
            refine ⟨k + 1, by omega, by go_num, ?_, ?_, ?_⟩
            · rw [HNX.out]
              have hst := (HA2.out.drewN q2).set f (x + t)
              rw [Nat.zero_add] at hst
              exact hst
            · rw [← HFS.out]
              exact blk_other (HB2.out.drewN q2) _ _ _ (by omega)
            · exact (below_drewN HB2w.out q2).setCell (Nat.le_refl _) _
          case measure => simp [intOf]; omega
        · obtain rfl : k = zs0.length := by omega
          go_wp2_with fail
          go_ret
          have h := HBK.out
          have e := fill_all L
          rw [HLL.out] at e
          rw [e] at h
          exact ⟨_, rfl, h.row (by omega) h.1 (by rw [HLL.out]; exact Nat.le_refl _) (by unfold maxLen; omega) HLL.out.symm, HBq.out⟩
set_option maxHeartbeats 1600000 in
theorem sGreedyS_any (v0 : Value) (zs0 : List Int) (n : Int) (w : World) (lo0 hi0 : Nat) (hv0 : Lies w lo0 hi0 v0 zs0) : Calls Try.prog 21 #[v0, .int .i64 n] w (NewRow (greedyA zs0 n) w) := by
  have HB0 := hidH (bMore (Below.refl w.heap.size w) (.cells #[] 3))
  have HE := hidH (sEng_any v0 zs0 n _ lo0 hi0 (hv0.below HB0.out))
  have HV0 := hidH hv0
  obtain ⟨a0, cap0, rfl, hlc0, hcm0, _, _⟩ := hv0
  unfold maxLen at hcm0
  obtain ⟨i0, hi0, hz0, hz1, hz2⟩ := info_parts infoInt
  have HO := hidH (World.ownsRow_made (base := w.heap.size) (e := 3) (size := 1) w #[] 0 (Nat.le_refl _) (Nat.zero_le _) rfl)
  cases h1 : timesOk zs0 && nEngOk n
  · have HR := hidH (greedyA_no h1)
    rw [h1] at HE
    clear h1
    have HO' := hidH (row_of_owns (show (w.alloc (.cells #[] 3)).ownsRow w.heap.size 3 1 (.slice (some ⟨w.heap.size, 0, none⟩) 0 0) ([] : List Int).length (ints []) from HO.out))
    go_enter Try.func21, Try.ntmps21
    go_wp2_with fail
    refine HE.out.mono ?_; rintro e w1 ⟨rfl, rfl⟩
    go_wp2_with fail
    go_ret
    rw [HR.out]
    exact ⟨_, rfl, HO'.out.1, HB0.out⟩
  · rw [h1] at HE
    rw [Bool.and_eq_true] at h1
    have H1 := hidH h1.1
    have ⟨n1, n2⟩ := of_decide_eq_true h1.2
    have ⟨t1, _⟩ := timesOk_parts h1.1
    rw [greedyA_yes h1.1 h1.2]
    obtain ⟨m, rfl⟩ : ∃ m : Nat, n = (m : Int) := ⟨n.toNat, by omega⟩
    rw [Int.toNat_natCast]
    clear h1
    have HLL := hidH (fun k => greedyF_length zs0 m k)
    have HGI := hidH (fun k j (g : Int) h => greedyF_in zs0 m k j g (by omega) h)
    have HST := hidH (fun k => (show greedyF zs0 m (k + 1) = greedyF zs0 m k ++ [(freeI (loadsL zs0 (greedyF zs0 m k) m) : Int)] by
      rw [greedyF, ← loadsL_cut zs0 (greedyF zs0 m k) m, greedyF_length]))
    have HG0 := hidH (show greedyF zs0 m 0 = [] from rfl)
    generalize greedyF zs0 m = L at *
    go_enter Try.func21, Try.ntmps21
    go_wp2_with fail
    refine HE.out.mono ?_; rintro e w1 ⟨rfl, rfl⟩
    go_wp2_with fail
    go_loopw [5, 6] (fun o i wr => ∃ (k : Nat) (ov : Value), k ≤ zs0.length ∧ i = .int .i64 k ∧ ov = o ∧ wr.ownsRow w.heap.size 3 1 ov k (ints (L k)) ∧ Below w.heap.size w wr) (fun _ i _ => zs0.length - (intOf i).toNat)
    case atStart => exact ⟨0, _, Nat.zero_le _, rfl, rfl, by rw [HG0.out]; exact HO.out, HB0.out⟩
    case round =>
      obtain ⟨k, ov, hk, rfl, rfl, hown, hb⟩ := hrel
      have HWn := hidH hown
      have HBq := hidH hb
      clear hown hb
      have hszq := HBq.out.size
      by_cases hlt : k < zs0.length
      · have HLD := hidH (sLoads_any _ zs0 ov (L k) m wr _ _ _ _ (HV0.out.below HBq.out) (row_of_owns HWn.out).1.lies (by omega) H1.out (fun j g hj => HGI.out k j g hj) (by rw [HLL.out]; omega))
        have HSk := hidH (HST.out k)
        have hll : 0 < (loadsL zs0 (L k) m).length := by rw [loadsL_length]; omega
        generalize loadsL zs0 (L k) m = LD at *
        go_wp2_with fail
        refine HLD.out.mono ?_; rintro e w1 ⟨v9, rfl, hr, hb⟩
        have HRr := hidH hr
        have HB1 := hidH hb
        clear hr hb
        go_wp2_with fail
        refine (sFree_any _ LD w1 _ _ HRr.out.lies hll).mono ?_; rintro e w2 ⟨rfl, hb⟩
        have HB2 := hidH (bThen HB1.out hb)
        clear hb HB1 HRr
        generalize freeI LD = f at *
        have HW2 := hidH (owns_below HWn.out HB2.out)
        have HBq2 := hidH (bThen HBq.out HB2.out)
        have hsz2 := HBq2.out.size
        have hl2 := (HWn.out.lt)
        clear HWn HB2
        go_wp2_with (at_builtin; refine wpList_append_own _ rfl _ _ 23 rfl w.heap.size 3 i0 (.int .i64 0) 1 8 Try.underlying23 hi0 hz0 hz1 hz2 rfl (by decide) _ _ _ rfl (owns_below HW2.out ((Below.refl _ w2).alloc (Nat.le_refl _) _)) ⟨w2.heap.size, 0, none⟩ 1 1 [.int .i64 (f : Int)] rfl rfl (news_one w2 _ _) (one_one _) (by unfold maxLen; omega) (by omega) (by simp; omega) ?_)
        intro v' w9 hown1 hgrow _
        have HR9 := hidH hown1
        have HG9 := hidH hgrow
        clear hown1 hgrow
        go_wp2_with fail
        go_roundw
        case rel =>
          refine ⟨k + 1, v', by omega, by go_num, rfl, ?_, ?_⟩
          · have h := HR9.out
            rw [HSk.out]
            rw [show ints (L k ++ [(f : Int)]) = ints (L k) ++ [Value.int .i64 (f : Int)] by simp [ints]]
            exact h
          · exact (HBq2.out.alloc hsz2 _).grown HG9.out (by simp; omega) fun g hg => (hl2 g hg).1
        case measure => simp [intOf]; omega
      · obtain rfl : k = zs0.length := by omega
        go_wp2_with fail
        go_ret
        have h := HWn.out
        exact ⟨_, rfl, (row_of_owns h).1, HBq.out⟩
end Go.Proofs.Ytcinhmfjnjecdaa
