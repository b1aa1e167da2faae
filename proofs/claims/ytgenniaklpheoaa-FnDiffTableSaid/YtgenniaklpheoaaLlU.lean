/-
  The model's copy of rows of rows, and its DiffTable. No conditions.
-/
import Derived.Test.YtgenniaklpheoaaLlT
namespace Go.Proofs.Ytgenniaklpheoaa
set_option maxRecDepth 4000
open Go.RowKit
set_option maxHeartbeats 2000000 in
theorem sOwn_any (v : Value) (zss : List (List Int)) (w : World) (hv : LL w v zss) (hm : ∀ zs ∈ zss, 0 < zs.length ∧ zs.length ≤ 1000) (hl : zss.length ≤ 1000) : Calls Try.prog 68 #[v] w (NewRowL zss w) := by
  obtain ⟨i0, hi0, hz0, hz1, hz2⟩ := info_parts infoInt
  obtain ⟨j0, hj0, hy0, hy1, hy2⟩ := info_parts infoSl
  have HO := hidH (World.ownsRow_made (base := w.heap.size) (e := 23) (size := 1) w #[] 0 (Nat.le_refl _) (Nat.zero_le _) rfl)
  have HB0 := hidH ((Below.refl w.heap.size w).alloc (Nat.le_refl _) (.cells #[] 23))
  rcases hv with ⟨rfl, a, cap, rfl, hc⟩ | ⟨g, cap, rfl, h0, hlc, hcm, hg, hcell⟩
  · unfold maxLen at hc
    have HR := hidH (show RowL (w.alloc (.cells #[] 23)) w.heap.size (w.alloc (.cells #[] 23)).heap.size (.slice (some ⟨w.heap.size, 0, none⟩) 0 0) [] from Or.inl ⟨rfl, _, _, rfl, Nat.zero_le _⟩)
    go_enter Try.func68, Try.ntmps68
    go_wp2
    go_loopw [3, 9] (fun o i wr => o = .slice (some ⟨w.heap.size, 0, none⟩) 0 0 ∧ i = .int .i64 0 ∧ wr = w.alloc (.cells #[] 23)) (fun _ _ _ => 0)
    case atStart => exact ⟨rfl, rfl, rfl⟩
    case round =>
      obtain ⟨rfl, rfl, rfl⟩ := hrel
      go_wp2
      go_ret
      exact ⟨_, rfl, HR.out, HB0.out⟩
  · unfold maxLen at hcm
    have HC := hidH hcell
    have HM := hidH hm
    clear hcell hm
    go_enter Try.func68, Try.ntmps68
    go_wp2
    go_loopw [3, 9] (fun o i wr => ∃ (k : Nat) (ov : Value) (f : Nat → Nat) (xs : List Value), k ≤ zss.length ∧ ov = o ∧ i = .int .i64 k ∧ wr.ownsRow w.heap.size 23 1 ov k xs ∧ InnerR wr w.heap.size f ov.ownBlock (zss.take k) xs ∧ Below w.heap.size w wr) (fun _ i _ => zss.length - (intOf i).toNat)
    case atStart => exact ⟨0, _, fun _ => 0, [], Nat.zero_le _, rfl, rfl, HO.out, InnerR.nil _ _ _ _, HB0.out⟩
    case round =>
      obtain ⟨k, ov, f, xs, hk, rfl, rfl, hown, hin, hb⟩ := hrel
      have HW := hidH hown
      have HI := hidH hin
      have HB := hidH hb
      have hsr := hb.size
      clear hown hin hb HO HB0
      by_cases hlt : k < zss.length
      · obtain ⟨zs, hz⟩ : ∃ zs, zss[k]? = some zs := ⟨_, List.getElem?_eq_getElem hlt⟩
        have ⟨hp, hp2⟩ := HM.out zs (List.mem_of_getElem? hz)
        obtain ⟨a, c, hc, hli⟩ := HC.out k zs hz
        obtain ⟨b, off, c', hve, hc1, hc2, _, _, hbl, hcl⟩ := hli.addr hp
        injection hve with e1 e2 e3
        subst e1
        subst e3
        unfold maxLen at hc2
        have hcw : wr.cell? ⟨g, k, none⟩ = some (.slice (some ⟨b, off, none⟩) zs.length c) := by rw [HB.out.cell (p := ⟨g, k, none⟩) hg]; exact hc
        have HCM := hidH fun W (hb : Below w.heap.size w W) => cells_map (zs := zs) (b := b) (off := off) (w := w) hcl W hb
        have HOc := hidH (oneCells zs)
        have HLN := hidH (show (ints zs).length = zs.length * 1 by rw [ints_length, Nat.mul_one])
        have HTk := hidH (show zss.take (k + 1) = zss.take k ++ [zs] by rw [List.take_add_one, hz]; rfl)
        have HKL := hidH (show (zss.take k).length = k by rw [List.length_take]; omega)
        clear hz hc hcl hli
        go_wp2_with (at_builtin; refine wpList_append_lies _ rfl _ _ 23 rfl wr.heap.size 3 i0 (.int .i64 0) 1 8 Try.underlying23 hi0 hz0 hz1 hz2 rfl (by decide) _ _ _ rfl (World.ownsRow_made wr #[] 0 (Nat.le_refl _) (Nat.zero_le _) rfl) ⟨b, off, none⟩ zs.length c (ints zs) rfl HLN.out (HCM.out _ (HB.out.alloc hsr _)) HOc.out hp (by unfold maxLen; omega) (by omega) (by simp) (wr.heap.size + 1) (by simp) ?_)
        intro g1 c1 w4 hown4 hgrow4 hat4 hlt4
        have hal : (wr.alloc (.cells #[] 3)).heap.size = wr.heap.size + 1 := by simp
        have hg1 : wr.heap.size ≤ g1 := by
          rcases hat4 with h | h
          · have h2 : wr.heap.size = g1 := Option.some.inj h; omega
          · omega
        have hb4 : Below wr.heap.size wr w4 := ((Below.refl _ wr).alloc (Nat.le_refl _) _).grown hgrow4 (by omega) (fun q hq => by have h2 : wr.heap.size = q := Option.some.inj hq; omega)
        have hr4 := (row_of_owns hown4).1
        obtain ⟨b4, cc4, hbe, p1, p2, p3, p4, p5⟩ := hr4.blk hp
        injection hbe with e1 e2 e3
        injection e1 with e1
        injection e1 with e1
        subst e1
        subst e3
        have hR4 := p5.row (Nat.le_refl g1) (Nat.lt_succ_self _) p1 p2 (n := zs.length) rfl
        have hown_ne : ∀ q, ov.ownBlock = some q → q < wr.heap.size := fun q hq => (HW.out.lt q hq).2
        have HI4 := hidH ((HI.out.below hb4).snoc hR4 (by omega) hlt4 (fun h => by have := hown_ne _ h; omega) (fun j hj => by
          obtain ⟨ys, hy⟩ : ∃ ys, (zss.take k)[j]? = some ys := ⟨_, List.getElem?_eq_getElem hj⟩
          obtain ⟨_, _, _, _, _, h5, _⟩ := HI.out.2.2 j ys hy
          omega))
        have HW4 := hidH (owns_below HW.out hb4)
        have HB4 := hidH (HB.out.trans (hb4.mono hsr))
        have s4 := HB4.out.size
        clear hown4 hgrow4 hat4 hb4 hr4 hR4 p5 HCM HLN HOc hal
        go_wp2_with (at_builtin; refine wpList_append_lies _ rfl _ _ 39 rfl w.heap.size 23 j0 (.slice none 0 0) 1 24 Try.underlying39 hj0 hy0 hy1 hy2 rfl (by decide) _ _ _ rfl (HW4.out.alloc _) ⟨w4.heap.size, 0, none⟩ 1 1 [.slice (some ⟨g1, 0, none⟩) zs.length c1] rfl rfl (news_oneV w4 _ _) (one_slice _ _ _) (by decide) (by unfold maxLen; omega) (by omega) (by simp; omega) (w4.heap.size + 1) (by simp) ?_)
        intro g6 c6 w6 hown6 hgrow6 hat6 hlt6
        have hba : Below w4.heap.size w4 (w4.alloc (.cells #[.slice (some ⟨g1, 0, none⟩) zs.length c1] 23)) := (Below.refl _ w4).alloc (Nat.le_refl _) _
        have hal : (w4.alloc (.cells #[.slice (some ⟨g1, 0, none⟩) zs.length c1] 23)).heap.size = w4.heap.size + 1 := by simp
        have hin6 := (HI4.out.below hba).grown hgrow6 (g := g6) (hat6.imp id (fun h => by omega))
        rw [← HTk.out] at hin6
        have HI6 := hidH hin6
        have HW6 := hidH hown6
        have HB6 := hidH (HB4.out.trans (((Below.refl _ w4).alloc s4 _).grown hgrow6 (by omega) (fun q hq => (HW.out.lt q hq).1)))
        clear hown6 hgrow6 hat6 hin6 hba hal HI4 HW4 HB4 HI HW HB
        go_wp2_with fail
        go_roundw
        case rel => exact ⟨k + 1, _, _, _, by omega, rfl, by go_num, HW6.out, HI6.out, HB6.out⟩
        case measure => simp [intOf]; omega
      · obtain rfl : k = zss.length := by omega
        have hi := HI.out
        rw [List.take_length] at hi
        have HR := hidH (hi.rowL HW.out rfl)
        clear hi
        go_wp2
        go_ret
        exact ⟨_, rfl, HR.out, HB.out⟩
theorem sDiffTable_any (v : Value) (zs : List Int) (w : World) (lo hi : Nat) (hv : Lies w lo hi v zs) : Calls Try.prog 32 #[v] w (NewRowL (dtA zs) w) := by
  have HR := hidH (sRaw_any v zs w lo hi hv)
  obtain ⟨a, cap, rfl, _⟩ := hv
  have hm : ∀ xs ∈ dtA zs, 0 < xs.length ∧ xs.length ≤ 1000 := by
    intro xs hx
    cases hs : (tableOk zs && shortOk zs)
    · rw [dtA_no zs hs] at hx; simp at hx
    · rw [dtA_yes zs hs] at hx
      rw [Bool.and_eq_true] at hs
      have l30 : zs.length ≤ 30 := of_decide_eq_true hs.2
      obtain ⟨j, hj, rfl⟩ := List.getElem_of_mem hx
      rw [rowsL_length] at hj
      have h := rowsL_get zs zs.length j hj
      rw [List.getElem?_eq_getElem (by rw [rowsL_length]; exact hj)] at h
      injection h with h
      rw [h, difN_length]
      omega
  have hl : (dtA zs).length ≤ 1000 := by
    cases hs : (tableOk zs && shortOk zs)
    · rw [dtA_no zs hs]; exact Nat.zero_le _
    · rw [dtA_yes zs hs, rowsL_length]
      rw [Bool.and_eq_true] at hs
      have l30 : zs.length ≤ 30 := of_decide_eq_true hs.2
      omega
  have HS := hidH fun (W : World) (u : Value) (hu : LL W u (dtA zs)) => sOwn_any u (dtA zs) W hu hm hl
  clear hm hl
  generalize dtA zs = T at *
  go_enter Try.func32, Try.ntmps32
  go_wp2_with fail
  refine HR.out.mono ?_; rintro e w1 ⟨u, rfl, hu, hb⟩
  have HB := hidH hb
  have HS1 := hidH (HS.out w1 u hu)
  have hf : ∃ a2 n2 c2, u = .slice a2 n2 c2 := by
    rcases hu with ⟨_, a2, c2, e, _⟩ | ⟨g, c2, e, _⟩
    · exact ⟨_, _, _, e⟩
    · exact ⟨_, _, _, e⟩
  clear hu hb
  obtain ⟨a2, n2, c2, rfl⟩ := hf
  go_wp2_with fail
  refine HS1.out.mono ?_; rintro e w2 ⟨q, rfl, hq, hb⟩
  have HQ := hidH (hq.mono HB.out.size (Nat.le_refl _))
  have HB2 := hidH (HB.out.trans (hb.mono HB.out.size))
  clear hq hb
  go_wp2_with fail
  go_ret
  exact ⟨_, rfl, HQ.out, HB2.out⟩
end Go.Proofs.Ytgenniaklpheoaa
