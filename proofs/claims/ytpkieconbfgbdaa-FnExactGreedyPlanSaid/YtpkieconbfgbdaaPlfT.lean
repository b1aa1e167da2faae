/-
  The model's copy of a row of segments. Condition: not more numbers than the laws let through.
-/
import Derived.Test.YtpkieconbfgbdaaPlfS
import Derived.Laws.AppendOwnNone
namespace Go.Proofs.Ytpkieconbfgbdaa
set_option maxRecDepth 4000
open Go.RowKit
/-- A call that answers a segment with a row of its own. -/
def NewSeg1 (c : Int) (zs : List Int) (w : World) (e : Ending) (w' : World) : Prop := ∃ u, e = .returned (.agg #[.int .i64 c, u]) ∧ Row w' w.heap.size w'.heap.size u zs ∧ Below w.heap.size w w'
set_option maxHeartbeats 1600000 in
theorem ownSeg_any (c : Int) (v : Value) (zs : List Int) (w : World) (lo hi : Nat) (hv : Lies w lo hi v zs) (hn : zs.length ≤ 1048576) : Calls Try.prog 55 #[.agg #[.int .i64 c, v]] w (NewSeg1 c zs w) := by
  obtain ⟨a, cap, rfl, hlc, hcm, hnil, hcell⟩ := hv
  unfold maxLen at hcm
  obtain ⟨i0, hi0, hz0, hz1, hz2⟩ := info_parts infoInt
  have BB := hidH (bMore (bMore (bMore (Below.refl w.heap.size w) (.cells #[.int .i64 c, .slice a zs.length cap] 46)) (.cells #[.int .i64 0, .slice none 0 0] 46)) (.cells #[] 3))
  have E1 := hidH (((SegAt.fresh w c (.slice a zs.length cap)).alloc (.cells #[.int .i64 0, .slice none 0 0] 46)).alloc (.cells #[] 3))
  have E2 := hidH ((SegAt.newAt (w.alloc (.cells #[.int .i64 c, .slice a zs.length cap] 46)) 0 (.slice none 0 0) (w.heap.size + 1) (by simp)).alloc (.cells #[] 3))
  have hsz0 : ((w.alloc (.cells #[.int .i64 c, .slice a zs.length cap] 46)).alloc (.cells #[.int .i64 0, .slice none 0 0] 46)).heap.size = w.heap.size + 1 + 1 := by simp
  have HO := hidH (World.ownsRow_made (base := w.heap.size + 2) (e := 3) (size := 1) ((w.alloc (.cells #[.int .i64 c, .slice a zs.length cap] 46)).alloc (.cells #[.int .i64 0, .slice none 0 0] 46)) #[] 0 (by simp) (Nat.zero_le _) rfl)
  rw [hsz0] at HO
  clear hsz0
  have cA := E1.out.cell1
  cases a with
  | none =>
    obtain rfl := hnil rfl
    obtain rfl : zs = [] := List.eq_nil_of_length_eq_zero (by omega)
    clear hcell hnil
    go_enter Try.func55, Try.ntmps55
    go_wp2_with (at_builtin; refine wpList_append_own_none rfl _ _ 22 rfl (w.heap.size + 2) 3 i0 1 Try.underlying22 hi0 _ _ _ rfl HO.out rfl ?_)
    refine bodyPost_ret (results_seg Try.results55 _ _ (w.heap.size + 1) _ _ rfl ((SegAt.newAt (w.alloc (.cells #[.int .i64 c, .slice (some ⟨w.heap.size + 2, 0, none⟩) 0 0] 46)) c (.slice (some ⟨w.heap.size + 2, 0, none⟩) 0 0) (w.heap.size + 1) (by simp)).alloc _)) rfl ?_
    refine ⟨_, rfl, ?_, bMore (bMore (bMore (Below.refl w.heap.size w) _) _) _⟩
    have h := (row_of_owns (lo := w.heap.size) (e := 3) (zs := []) (World.ownsRow_made (base := w.heap.size) (e := 3) (size := 1) ((w.alloc (.cells #[.int .i64 c, .slice (some ⟨w.heap.size + 2, 0, none⟩) 0 0] 46)).alloc (.cells #[.int .i64 c, .slice (some ⟨w.heap.size + 2, 0, none⟩) 0 0] 46)) #[] 0 (by simp; omega) (Nat.zero_le _) rfl)).1
    simp at h ⊢
    exact h
  | some ad =>
    have HC := hidH (fun (w' : World) (hb : Below w.heap.size w w') => show ∀ (j : Nat) u, (ints zs)[j]? = some u → w'.cell? (ad.add j) = some u from fun j u hu => by
      unfold ints at hu
      rw [List.getElem?_map] at hu
      obtain ⟨z, hz, rfl⟩ := Option.map_eq_some_iff.1 hu
      obtain ⟨b, off, e, _, _, hc⟩ := hcell j z hz
      injection e with e
      subst e
      rw [show (⟨b, off, none⟩ : Addr).add j = ⟨b, off + j, none⟩ from by simp [Addr.add], hb.cell (p := ⟨b, off + j, none⟩) (cell_blk _ _ _ hc)]
      exact hc)
    have HOC := hidH (oneCells zs)
    clear hcell hnil
    go_enter Try.func55, Try.ntmps55
    go_wp2_with (at_builtin; refine wpList_append_own _ rfl _ _ 22 rfl (w.heap.size + 2) 3 i0 (.int .i64 0) 1 8 Try.underlying22 hi0 hz0 hz1 hz2 rfl (by decide) _ _ _ rfl HO.out ad zs.length cap (ints zs) rfl ?qc1 ?qc2 HOC.out ?qc4 ?qc5 ?qc6 ?_)
    case qc1 => rw [ints_length, Nat.mul_one]
    case qc2 => exact HC.out _ BB.out
    case qc4 => unfold maxLen; omega
    case qc5 => omega
    case qc6 => simp
    intro v' w5 hown hgrow _
    have hr := (row_of_owns hown).1
    have HR := hidH hr
    have hg := (Below.refl (w.heap.size + 2) _).grown hgrow (by simp) (fun g hg => (HO.out.lt g hg).1)
    clear hown hgrow
    obtain ⟨a', cap', rfl⟩ := hr.some
    have F1 := hidH (E1.out.lowB hg (by omega))
    have F2 := hidH (E2.out.lowB hg (by omega))
    have B5 := hidH (BB.out.trans (hg.mono (by omega)))
    have hsz := hg.size
    have c1 := F1.out.cell1
    have f1 := F1.out.free 1
    have G1 := hidH (F1.out.put1 (.slice a' zs.length cap'))
    have G2 := hidH (F2.out.other ⟨w.heap.size, 1, none⟩ (.slice a' zs.length cap') (by show w.heap.size + 1 ≠ w.heap.size; omega))
    have HBs := hidH (B5.out.setCell (p := ⟨w.heap.size, 1, none⟩) (Nat.le_refl _) (.slice a' zs.length cap'))
    have SZ := hidH (seg_size c (.slice a' zs.length cap'))
    have SO := hidH (seg_one c a' zs.length cap')
    clear hr hg
    go_wp2_with (first | (refine wpList_load_row rfl 46 _ rfl w.heap.size rfl 46 _ (0, 0) _ G1.out Try.underlying46 rfl SZ.out ?_) | (refine wpList_store_row rfl 46 _ _ rfl (w.heap.size + 1) #[.int .i64 c, .slice a' zs.length cap'] rfl rfl 46 _ G2.out SZ.out rfl SO.out ?_))
    refine bodyPost_ret (results_seg Try.results55 _ _ (w.heap.size + 1) _ _ rfl (G2.out.setRow _ _)) rfl ?_
    exact ⟨_, rfl, ((HR.out.apart (Apart.of_onto (lo := w.heap.size) (hi := w.heap.size + 2) (Onto.setCell w.heap.size 1 w5 _) (by omega) (by omega)) (.inr (Nat.le_refl _))).apart (Apart.of_onto (lo := w.heap.size) (hi := w.heap.size + 2) (ontoRow (w.heap.size + 1) _ _) (by omega) (by omega)) (.inr (Nat.le_refl _))).mono (by omega) (by simp), bRow HBs.out (by omega) _⟩
set_option maxHeartbeats 1600000 in
theorem ownSgs_any (v : Value) (cs : List (Int × List Int)) (w : World) (h1 : Nat) (hv : LiesSg w h1 v cs) (hn : cs.length ≤ 1048576) (hp : ∀ c zs, (c, zs) ∈ cs → zs.length ≤ 1048576) : Calls Try.prog 27 #[v] w (NewAp cs w) := by
  have HV := hidH hv
  have HPP := hidH hp
  obtain ⟨a, cap, rfl, hlc, hcm⟩ := hv.len
  unfold maxLen at hcm
  clear hv hp
  obtain ⟨i0, hi0, hz0, hz1, hz2⟩ := info_parts info_sg
  have HO := hidH (World.ownsRow_made (base := w.heap.size) (e := 46) (size := 2) w #[] 0 (Nat.le_refl _) (Nat.zero_le _) rfl)
  go_enter Try.func27, Try.ntmps27
  go_wp2_with fail
  go_loopw [3, 9] (fun o i wr => ∃ (k m : Nat) (ov : Value) (us : List Value), k ≤ cs.length ∧ i = .int .i64 k ∧ ov = o ∧ wr.ownsRow w.heap.size 46 2 ov k us ∧ InSg wr w.heap.size m ov us (cs.take k) ∧ Below w.heap.size w wr) (fun _ i _ => cs.length - (intOf i).toNat)
  case atStart => exact ⟨0, w.heap.size, _, [], Nat.zero_le _, rfl, rfl, HO.out, by rw [List.take_zero]; exact InSg.nil _ _ _ _ (by simp), (Below.refl _ _).alloc (Nat.le_refl _) _⟩
  case round =>
    obtain ⟨k, m, ov, us, hk, rfl, rfl, hown, hin, hb⟩ := hrel
    have HW := hidH hown
    have HI := hidH hin
    have HB := hidH hb
    clear hown hin hb
    by_cases hlt : k < cs.length
    · obtain ⟨b, off, cc1, e, _, _, _, hcl⟩ := HV.out.addr (by omega)
      injection e with e1 e2 e3
      subst e1; subst e3
      obtain ⟨x, hx⟩ : ∃ x, cs[k]? = some x := ⟨cs[k], List.getElem?_eq_getElem hlt⟩
      obtain ⟨c, zs⟩ := x
      obtain ⟨p, q0, q1, q2⟩ := hcl k c zs hx
      have c0 : wr.cell? ⟨b, off + k * 2, none⟩ = some (.int .i64 c) := by rw [HB.out.cell (p := ⟨b, off + k * 2, none⟩) (cell_blk _ _ _ q0)]; exact q0
      have c1 : wr.cell? ⟨b, off + k * 2 + 1, none⟩ = some p := by rw [HB.out.cell (p := ⟨b, off + k * 2 + 1, none⟩) (cell_blk _ _ _ q1)]; exact q1
      have HP := hidH (q2.below HB.out)
      obtain ⟨pa, pc, rfl⟩ := q2.some
      have hp2 := HPP.out c zs (List.mem_of_getElem? hx)
      have HX := hidH hx
      clear hcl q0 q1 q2 hx
      have BX := bMore (Below.refl wr.heap.size wr) (.cells #[.int .i64 c, .slice pa zs.length pc] 46)
      have HOS := hidH (ownSeg_any c _ zs _ _ _ (HP.out.below BX) hp2)
      have HBX := hidH BX
      clear BX
      go_wp2_with fail
      refine HOS.out.mono ?_; rintro e w5 ⟨u, rfl, hr, hb⟩
      have RE := hidH hr
      have hb5 := bThen HBX.out hb
      have B5 := hidH (bThen HB.out hb5)
      have W5 := hidH (owns_below HW.out hb5)
      have I5 := hidH (HI.out.below hb5)
      have hLT := fun g (hg : ov.ownBlock = some g) => (HW.out.lt g hg).2
      have hmi := HI.out.2.1
      have hbs := HB.out.size
      have hs5 := hb5.size
      obtain ⟨ea, ec, rfl⟩ := hr.some
      have hk20 : k ≤ 1048576 := by omega
      clear hr hb hb5 c0 c1
      have hB6 : Below w5.heap.size w5 (w5.alloc (.cells #[.int .i64 c, .slice ea zs.length ec] 46)) := (Below.refl _ w5).alloc (Nat.le_refl _) _
      have W6 := hidH (owns_below W5.out hB6)
      have I6 := hidH (I5.out.below hB6)
      have R6 := hidH (RE.out.below hB6)
      have B6 := hidH (bMore B5.out (.cells #[.int .i64 c, .slice ea zs.length ec] 46))
      have HNW := hidH (World.news_of_block (cs := #[.int .i64 c, .slice ea zs.length ec]) (t := 46) (fr := (0, 0)) (heap_alloc_new w5 (.cells #[.int .i64 c, .slice ea zs.length ec] 46)))
      have hs6 : (w5.alloc (.cells #[.int .i64 c, .slice ea zs.length ec] 46)).heap.size = w5.heap.size + 1 := by simp
      have HS6 := hidH hs6
      have HLT := hidH hLT
      have HBA := hidH (show (wr.alloc (.cells #[.int .i64 c, .slice pa zs.length pc] 46)).heap.size = wr.heap.size + 1 by simp)
      clear hB6 hs6 hLT
      go_wp2_with (at_builtin; refine wpList_append_lies _ rfl _ _ 23 rfl w.heap.size 46 i0 _ 2 32 Try.underlying23 hi0 hz0 hz1 hz2 rfl (by decide) ov k us rfl W6.out ⟨w5.heap.size, 0, none⟩ 1 1 [.int .i64 c, .slice ea zs.length ec] rfl rfl HNW.out (by simp [Value.oneCell']) (by decide) (by unfold maxLen; omega) (by omega) (by simp; omega) _ rfl ?_)
      intro g7 cap7 w7 hown1 hgrow hat hlt7
      have W7 := hidH hown1
      have I7 := hidH (I6.out.snoc (l := wr.heap.size) (h := w5.heap.size) (ov' := .slice (some ⟨g7, 0, none⟩) (k + 1) cap7) (c := c) hgrow hgrow.size rfl (hat.imp id (fun h => by rw [h]; simp)) (R6.out.mono (by rw [HBA.out]; omega) (Nat.le_refl _)) hmi hs5 (by rw [HS6.out]; omega) hbs (fun g hg => HLT.out g hg))
      have B7 := hidH (B6.out.grown hgrow (by rw [HS6.out]; omega) fun g hg => (W6.out.lt g hg).1)
      clear hown1 hgrow hat hlt7
      go_wp2_with fail
      go_roundw
      case rel => exact ⟨k + 1, _, _, _, by omega, by go_num, rfl, W7.out, by rw [List.take_add_one, HX.out]; exact I7.out, B7.out⟩
      case measure => simp [intOf]; omega
    · obtain rfl : k = cs.length := by omega
      have h := HI.out
      rw [List.take_length] at h
      have HL := hidH (h.ap HW.out)
      clear h
      go_wp2_with fail
      go_ret
      exact ⟨_, rfl, HL.out, HB.out⟩
end Go.Proofs.Ytpkieconbfgbdaa
