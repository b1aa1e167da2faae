/-
  Rows of engines that grow, and the model's copy of a row. No conditions but that slices fit in memory.
-/
import Derived.Test.YtgogpajafjihdaaEsA
import Derived.Deep.AppendLies
namespace Go.Proofs.Ytgogpajafjihdaa
set_option maxRecDepth 4000
open Go.RowKit
/-! ### Rows that grow, as the model makes them -/
/-- The values in a row that grows are engines that can be read, apart from the row's own block. -/
def InAt (w : World) (ov : Value) (us : List Value) (es : List (List ByteArray)) : Prop := us.length = es.length ∧ ∀ (j : Nat) cs, es[j]? = some cs → ∃ u l h, us[j]? = some u ∧ LiesS w l h u cs ∧ h ≤ w.heap.size ∧ ∀ g, ov.ownBlock = some g → g < l ∨ h ≤ g
theorem InAt.below {w w' : World} {ov : Value} {us : List Value} {es : List (List ByteArray)} (H : InAt w ov us es) (hb : Below w.heap.size w w') : InAt w' ov us es := ⟨H.1, fun j cs hj => by
  obtain ⟨u, l, h, h1, h2, h3, h4⟩ := H.2 j cs hj
  exact ⟨u, l, h, h1, h2.below hb, Nat.le_trans h3 hb.size, h4⟩⟩
theorem InAt.nil (w : World) (ov : Value) : InAt w ov [] [] := ⟨rfl, fun _ _ h => by simp at h⟩
/-- One more engine is appended. -/
theorem InAt.snoc {w w' : World} {ov ov' : Value} {us : List Value} {es : List (List ByteArray)} {g l : Nat} {u : Value} {cs : List ByteArray} (H : InAt w ov us es) (hg : w.grownBy w' ov.ownBlock) (hs : w.heap.size ≤ w'.heap.size) (ho : ov'.ownBlock = some g) (hat : ov.ownBlock = some g ∨ w.heap.size ≤ g)
    (hu : LiesS w l w.heap.size u cs) (hl : ∀ g, ov.ownBlock = some g → g < l) : InAt w' ov' (us ++ [u]) (es ++ [cs]) := by
  refine ⟨by simp [H.1], fun j ds hj => ?_⟩
  by_cases hjl : j < es.length
  · rw [List.getElem?_append_left hjl] at hj
    obtain ⟨v, l1, h1, e1, e2, e3, e4⟩ := H.2 j ds hj
    refine ⟨v, l1, h1, by rw [List.getElem?_append_left (by rw [H.1]; exact hjl)]; exact e1, e2.grown hg e4, Nat.le_trans e3 hs, fun k hk => ?_⟩
    rw [ho] at hk
    injection hk with hk
    subst hk
    rcases hat with h | h
    · exact e4 _ h
    · exact .inr (by omega)
  · have hje : j = es.length := by
      have := (List.getElem?_eq_some_iff.1 hj).1
      simp at this
      omega
    subst hje
    rw [List.getElem?_append_right (Nat.le_refl _), Nat.sub_self] at hj
    injection hj with hj
    subst hj
    refine ⟨u, l, w.heap.size, by rw [List.getElem?_append_right (by rw [H.1]; exact Nat.le_refl _), H.1, Nat.sub_self]; rfl, hu.grown hg (fun k hk => .inl (hl k hk)), hs, fun k hk => ?_⟩
    rw [ho] at hk
    injection hk with hk
    subst hk
    rcases hat with h | h
    · exact .inl (hl _ h)
    · exact .inr h
/-- .. and what the row holds can be read. -/
theorem InAt.lies {w : World} {base e n : Nat} {ov : Value} {us : List Value} {es : List (List ByteArray)} (H : InAt w ov us es) (hown : w.ownsRow base e 1 ov n us) : LiesEs w w.heap.size ov es := by
  obtain ⟨hl, hv⟩ := hown
  have hn : n = es.length := by rw [← H.1, hl, Nat.mul_one]
  subst hn
  rcases hv with ⟨rfl, hus⟩ | ⟨g, cap, cur, rfl, hg, hh, hn, hc, hsz, ht⟩
  · have h0 : es = [] := List.eq_nil_of_length_eq_zero hus
    subst h0
    exact (RowEs.nil w 0 w.heap.size none 0 (Nat.zero_le _) (fun _ => rfl) (Nat.zero_le _)).lies
  · have hlt : g < w.heap.size := (Array.getElem?_eq_some_iff.1 hh).1
    refine ⟨some ⟨g, 0, none⟩, cap, rfl, by omega, hc, (fun h => by cases h), fun j cs hj => ?_⟩
    obtain ⟨u, l, h, e1, e2, e3, _⟩ := H.2 j cs hj
    have hjn := (List.getElem?_eq_some_iff.1 e1).1
    refine ⟨g, 0, u, rfl, hlt, ?_, e2.mono (Nat.zero_le _) e3⟩
    rw [← ht, List.getElem?_take, if_pos (by omega), Array.getElem?_toList] at e1
    rw [Nat.zero_add]
    simp [World.cell?, hh, e1]
theorem info_eng : (Try.prog.info? 40).map (fun i => (i.zero, i.size, i.bytes)) = some (some (.agg #[.slice none 0 0]), 1, 24) := by kernel_rfl
theorem news_eng (w : World) (u : Value) (t : Nat) : ∀ (j : Nat) x, [u][j]? = some x → (w.alloc (.cells #[u] t)).cell? ((⟨w.heap.size, 0, none⟩ : Addr).add j) = some x := by
  intro j x hj
  obtain rfl : j = 0 := by have := (List.getElem?_eq_some_iff.1 hj).1; simpa using this
  simp at hj
  subst hj
  simp [Addr.add]
set_option maxHeartbeats 1600000 in
theorem ownEng_any (v : Value) (zs : List ByteArray) (w : World) (lo hi : Nat) (hv : LiesS w lo hi v zs) (h0 : 0 < zs.length) (hn : zs.length ≤ 1048576) : Calls Try.prog 30 #[.agg #[v]] w (NewEng zs w) := by
  obtain ⟨b, off, cap, rfl, hlc, hcm, _, _, hbw, hcell⟩ := hv.addr h0
  unfold maxLen at hcm
  have HC := hidH (cells_mapS hcell)
  have HOC := hidH (oneCellsS zs)
  obtain ⟨i0, hi0, hz0, hz1, hz2⟩ := info_parts infoText
  clear hv hcell
  have BB := hidH (bMore (bMore (bMore (Below.refl w.heap.size w) (.cells #[.slice (some ⟨b, off, none⟩) zs.length cap] 40)) (.cells #[.slice none 0 0] 40)) (.cells #[] 9))
  have E1 := hidH (((EngAt.fresh w (.slice (some ⟨b, off, none⟩) zs.length cap)).alloc (.cells #[.slice none 0 0] 40)).alloc (.cells #[] 9))
  have E2 := hidH ((EngAt.newAt (w.alloc (.cells #[.slice (some ⟨b, off, none⟩) zs.length cap] 40)) (.slice none 0 0) (w.heap.size + 1) (by simp)).alloc (.cells #[] 9))
  have hsz0 : ((w.alloc (.cells #[.slice (some ⟨b, off, none⟩) zs.length cap] 40)).alloc (.cells #[.slice none 0 0] 40)).heap.size = w.heap.size + 1 + 1 := by simp
  have HO := hidH (World.ownsRow_made (base := w.heap.size + 2) (e := 9) (size := 1) ((w.alloc (.cells #[.slice (some ⟨b, off, none⟩) zs.length cap] 40)).alloc (.cells #[.slice none 0 0] 40)) #[] 0 (by simp) (Nat.zero_le _) rfl)
  rw [hsz0] at HO
  clear hsz0
  have cA := E1.out.cell
  go_enter Try.func30, Try.ntmps30
  go_wp2_with (at_builtin; refine wpList_append_own _ rfl _ _ 38 rfl (w.heap.size + 2) 9 i0 (.string ⟨#[]⟩) 1 16 Try.underlying38 hi0 hz0 hz1 hz2 rfl (by decide) _ _ _ rfl HO.out ⟨b, off, none⟩ zs.length cap (intsS zs) rfl ?qc1 ?qc2 HOC.out ?qc4 ?qc5 ?qc6 ?_)
  case qc1 => rw [ints_lengthS, Nat.mul_one]
  case qc2 => exact HC.out _ BB.out
  case qc4 => unfold maxLen; omega
  case qc5 => omega
  case qc6 => simp
  intro v' w5 hown hgrow _
  have hr := (row_of_ownsS hown).1
  obtain ⟨a', cap', rfl⟩ := hr.some
  have HR := hidH hr
  have hg := (Below.refl (w.heap.size + 2) _).grown hgrow (by simp) (fun g hg => (HO.out.lt g hg).1)
  have F1 := hidH (E1.out.lowB hg (by omega))
  have F2 := hidH (E2.out.lowB hg (by omega))
  have B5 := hidH (BB.out.trans (hg.mono (by omega)))
  have hsz := hg.size
  have c1 := F1.out.cell
  have f1 := F1.out.free 0
  have G1 := hidH (F1.out.put (.slice a' zs.length cap'))
  have G2 := hidH (F2.out.setCell ⟨w.heap.size, 0, none⟩ (.slice a' zs.length cap') (by show w.heap.size + 1 ≠ w.heap.size; omega))
  have HBs := hidH (B5.out.setCell (p := ⟨w.heap.size, 0, none⟩) (Nat.le_refl _) (.slice a' zs.length cap'))
  have SZ := hidH (eng_size (.slice a' zs.length cap'))
  have SO := hidH (slice_one a' zs.length cap')
  clear hown hgrow hr hg
  go_wp2_with (first | (refine wpList_load_row rfl 40 _ rfl w.heap.size rfl 40 _ (0, 0) _ G1.out Try.underlying40 rfl SZ.out ?_) | (refine wpList_store_row rfl 40 _ _ rfl (w.heap.size + 1) #[.slice a' zs.length cap'] rfl rfl 40 _ G2.out SZ.out rfl SO.out ?_))
  refine bodyPost_ret (results_eng Try.results30 _ _ (w.heap.size + 1) _ rfl (G2.out.setRow _)) rfl ?_
  exact ⟨_, rfl, ((HR.out.apart (Apart.of_onto (lo := w.heap.size) (hi := w.heap.size + 2) (Onto.setCell w.heap.size 0 w5 _) (by omega) (by omega)) (.inr (Nat.le_refl _))).apart (Apart.of_onto (lo := w.heap.size) (hi := w.heap.size + 2) (onto_setRow (w.heap.size + 1) _ _) (by omega) (by omega)) (.inr (Nat.le_refl _))).mono (by omega) (by simp), bRow HBs.out (by omega) _⟩
set_option maxHeartbeats 1600000 in
theorem ownEngs_any (v : Value) (es : List (List ByteArray)) (w : World) (h1 : Nat) (hv : LiesEs w h1 v es) (hn : es.length ≤ 1048576) (hp : ∀ cs ∈ es, 0 < cs.length ∧ cs.length ≤ 1048576) : Calls Try.prog 16 #[v] w fun e w' => ∃ u, e = .returned u ∧ LiesEs w' w'.heap.size u es ∧ Below w.heap.size w w' := by
  have HV := hidH hv
  have HPP := hidH hp
  obtain ⟨a, cap, rfl, hlc, hcm⟩ := hv.len
  unfold maxLen at hcm
  clear hv hp
  obtain ⟨i0, hi0, hz0, hz1, hz2⟩ := info_parts info_eng
  have HO := hidH (World.ownsRow_made (base := w.heap.size) (e := 40) (size := 1) w #[] 0 (Nat.le_refl _) (Nat.zero_le _) rfl)
  go_enter Try.func16, Try.ntmps16
  go_wp2_with fail
  go_loopw [3, 9] (fun o i wr => ∃ (k : Nat) (ov : Value) (us : List Value), k ≤ es.length ∧ i = .int .i64 k ∧ ov = o ∧ wr.ownsRow w.heap.size 40 1 ov k us ∧ InAt wr ov us (es.take k) ∧ Below w.heap.size w wr) (fun _ i _ => es.length - (intOf i).toNat)
  case atStart => exact ⟨0, _, [], Nat.zero_le _, rfl, rfl, HO.out, by rw [List.take_zero]; exact InAt.nil _ _, (Below.refl _ _).alloc (Nat.le_refl _) _⟩
  case round =>
    obtain ⟨k, ov, us, hk, rfl, rfl, hown, hin, hb⟩ := hrel
    have HW := hidH hown
    have HI := hidH hin
    have HB := hidH hb
    clear hown hin hb
    by_cases hlt : k < es.length
    · obtain ⟨b, off, cc1, e, _, _, _, hcl⟩ := HV.out.addr (by omega)
      injection e with e1 e2 e3
      subst e1; subst e3
      obtain ⟨cs, hx⟩ : ∃ x, es[k]? = some x := ⟨es[k], List.getElem?_eq_getElem hlt⟩
      obtain ⟨p, q1, q2⟩ := hcl k cs hx
      have c1 : wr.cell? ⟨b, off + k, none⟩ = some p := by rw [HB.out.cell (p := ⟨b, off + k, none⟩) (cell_blk _ _ _ q1)]; exact q1
      have HP := hidH (q2.below HB.out)
      obtain ⟨pa, pc, rfl⟩ := q2.some
      obtain ⟨hp1, hp2⟩ := HPP.out cs (List.mem_of_getElem? hx)
      have HX := hidH hx
      clear hcl q1 q2 hx
      go_wp2_with fail
      have BX := bMore (Below.refl wr.heap.size wr) (.cells #[.slice pa cs.length pc] 40)
      refine (ownEng_any _ cs _ _ _ (HP.out.below BX) hp1 hp2).mono ?_; rintro e w5 ⟨u, rfl, hr, hb⟩
      have RE := hidH hr
      have B5 := hidH (bThen HB.out (bThen BX hb))
      have W5 := hidH (owns_below HW.out (bThen BX hb))
      have I5 := hidH (HI.out.below (bThen BX hb))
      have HLT := hidH (fun g (hg : ov.ownBlock = some g) => show g < (wr.alloc (.cells #[.slice pa cs.length pc] 40)).heap.size from by have := (HW.out.lt g hg).2; simp; omega)
      obtain ⟨ea, ec, rfl⟩ := hr.some
      have hs5 := B5.out.size
      clear hr hb BX c1
      go_wp2_with (at_builtin; refine wpList_append_lies _ rfl _ _ 23 rfl w.heap.size 40 i0 (.agg #[.slice none 0 0]) 1 24 Try.underlying23 hi0 hz0 hz1 hz2 rfl (by decide) ov k us rfl (owns_below W5.out ((Below.refl _ w5).alloc (Nat.le_refl _) _)) ⟨w5.heap.size, 0, none⟩ 1 1 [.slice ea cs.length ec] rfl rfl (news_eng w5 _ _) (by simp [Value.oneCell']) (by decide) (by unfold maxLen; omega) (by omega) (by simp; omega) _ rfl ?_)
      intro g7 cap7 w7 hown1 hgrow hat hlt7
      have W7 := hidH hown1
      have I7 := hidH ((I5.out.below ((Below.refl _ w5).alloc (Nat.le_refl _) _)).snoc (ov' := .slice (some ⟨g7, 0, none⟩) (k + 1) cap7) hgrow hgrow.size rfl (hat.imp id (fun h => by rw [h]; simp)) ((RE.out.lies.below ((Below.refl _ w5).alloc (Nat.le_refl _) _)).mono (Nat.le_refl _) (by simp <;> omega)) (fun g hg => HLT.out g hg))
      have B7 := hidH ((B5.out.alloc B5.out.size _).grown hgrow (by have := B5.out.size; simp at this ⊢; omega) fun g hg => (W5.out.lt g hg).1)
      clear hown1 hgrow hat hlt7
      go_wp2_with fail
      go_roundw
      case rel => exact ⟨k + 1, _, _, by omega, by go_num, rfl, W7.out, by rw [List.take_add_one, HX.out]; exact I7.out, B7.out⟩
      case measure => simp [intOf]; omega
    · obtain rfl : k = es.length := by omega
      have h := HI.out
      rw [List.take_length] at h
      have HL := hidH (h.lies HW.out)
      clear h
      go_wp2_with fail
      go_ret
      exact ⟨_, rfl, HL.out, HB.out⟩
end Go.Proofs.Ytgogpajafjihdaa
