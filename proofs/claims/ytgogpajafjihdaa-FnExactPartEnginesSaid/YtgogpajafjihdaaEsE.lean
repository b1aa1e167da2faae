/-
  PartEngines: the model, at every argument. No conditions but that slices fit in memory.
-/
import Derived.Test.YtgogpajafjihdaaEsD
import Derived.Test.YtgogpajafjihdaaPolyS
namespace Go.Proofs.Ytgogpajafjihdaa
set_option maxRecDepth 4000
open Go.RowKit
set_option maxHeartbeats 1600000 in
theorem rawPart_any (v0 : Value) (p : List Int) (f : Int) (v2 : Value) (zs : List Int) (wi : Int) (w : World) (lo0 hi0 lo2 hi2 : Nat) (hv0 : Lies w lo0 hi0 v0 p) (hv2 : Lies w lo2 hi2 v2 zs) (hn2 : zs.length ≤ 1048576) : Calls Try.prog 24 #[v0, .int .i64 f, v2, .int .i64 wi] w (ReadEsB (partA p f zs wi) (partB p f zs wi) w) := by
  have HV0 := hidH hv0
  have HAS := hidH (fun W (hb : Below w.heap.size w W) => l7Sizes_any v2 zs W lo2 hi2 (hv2.below hb) hn2)
  obtain ⟨a2, cap2, rfl, hlc, hcm, hnil, hcell⟩ := hv2
  unfold maxLen at hcm
  have HC := hidH hcell
  clear hcell hnil hv0
  have HO := hidH (World.ownsRow_made (base := w.heap.size) (e := 40) (size := 1) w #[] 0 (Nat.le_refl _) (Nat.zero_le _) rfl)
  cases hs : szOk zs
  · have HF := hidH (show partB p f zs wi = false by rw [partB, hs]; rfl)
    have HF2 := hidH (part_no HF.out)
    rw [hs] at HAS
    clear hs
    go_enter Try.func24, Try.ntmps24
    go_wp2_with fail
    refine (HAS.out _ ((Below.refl _ _).alloc (Nat.le_refl _) _)).mono ?_; rintro e w1 ⟨rfl, hww⟩
    rw [hww]
    clear hww
    go_wp2_with fail
    go_ret2
    rw [HF.out, HF2.out]
    exact ⟨_, rfl, (RowEs.nil _ 0 _ _ _ (Nat.zero_le _) (fun h => by cases h) (Nat.zero_le _)).lies, (Below.refl _ _).alloc (Nat.le_refl _) _⟩
  · have ⟨n1, n10, hnn, hsum⟩ := szOk_parts hs
    have HNN := hidH hnn
    have HPB := hidH (fun k => pre_bd hnn k)
    have HSU := hidH hsum
    have HS := hidH hs
    rw [hs] at HAS
    have HPG := hidH (fun k hk => partL_get p f zs wi k hk)
    have HPL := hidH (partL_length p f zs wi)
    have HAG := hidH (fun W => sArg_any f (inB 200 f) rfl W)
    have HBD0 := hidH (partB_bad (p := p) (f := f) (zs := zs) (wi := wi) 0 (by omega))
    clear hs hnn hsum
    cases hin : inB 200 f
    · have HF := hidH (HBD0.out (by
        cases e : setB p (f + preI zs 0) wi
        · rfl
        · have h := (setB_in e).1
          rw [show f + preI zs 0 = f by simp [preI], hin] at h
          cases h))
      have HF2 := hidH (part_no HF.out)
      rw [hin] at HAG
      clear hin
      go_enter Try.func24, Try.ntmps24
      go_wp2_with fail
      refine (HAS.out _ ((Below.refl _ _).alloc (Nat.le_refl _) _)).mono ?_; rintro e w1 ⟨rfl, hww⟩
      rw [hww]
      clear hww
      go_wp2_with fail
      refine (HAG.out _).mono ?_; rintro e w_ ⟨rfl, rfl⟩
      go_wp2_with fail
      go_ret2
      rw [HF.out, HF2.out]
      exact ⟨_, rfl, (RowEs.nil _ 0 _ _ _ (Nat.zero_le _) (fun h => by cases h) (Nat.zero_le _)).lies, (Below.refl _ _).alloc (Nat.le_refl _) _⟩
    · rw [hin] at HAG
      clear hin
      obtain ⟨i0, hi0, hz0, hz1, hz2⟩ := info_parts info_eng
      go_enter Try.func24, Try.ntmps24
      go_wp2_with fail
      refine (HAS.out _ ((Below.refl _ _).alloc (Nat.le_refl _) _)).mono ?_; rintro e w1 ⟨rfl, hww⟩
      rw [hww]
      clear hww
      go_wp2_with fail
      refine (HAG.out _).mono ?_; rintro e w_ ⟨rfl, rfl⟩
      go_wp2_with fail
      go_loopw [1, 10, 11] (fun m o i wr => ∃ (k : Nat) (ov : Value) (us : List Value), k ≤ zs.length ∧ i = .int .i64 k ∧ m = .int .i64 (f + preI zs k) ∧ ov = o ∧ (∀ j, j < k → setB p (f + preI zs j) wi = true) ∧ wr.ownsRow w.heap.size 40 1 ov k us ∧ InAt wr ov us ((partL p f zs wi).take k) ∧ Below w.heap.size w wr) (fun _ _ i _ => zs.length - (intOf i).toNat)
      case atStart => exact ⟨0, _, [], Nat.zero_le _, rfl, by simp [preI], rfl, (fun _ h => absurd h (Nat.not_lt_zero _)), HO.out, by rw [List.take_zero]; exact InAt.nil _ _, (Below.refl _ _).alloc (Nat.le_refl _) _⟩
      case round =>
        obtain ⟨k, ov, us, hk, rfl, rfl, rfl, hok, hown, hin, hb⟩ := hrel
        have HOK := hidH hok
        have HW := hidH hown
        have HI := hidH hin
        have HB := hidH hb
        clear hok hown hin hb
        by_cases hlt : k < zs.length
        · obtain ⟨z, hz⟩ := get_lt zs k hlt
          obtain ⟨b, off, rfl, _, hbw, hc⟩ := HC.out k z hz
          have HCZ := hidH hc
          have HPN := hidH (preI_next zs k z hz)
          have hz0' : 0 ≤ z := HNN.out z (List.mem_of_getElem? hz)
          have hz60 : z ≤ 60 := by
            have h1 := HPB.out k
            have h2 := HPB.out (k + 1)
            rw [HPN.out] at h2
            have := HSU.out
            omega
          have HX := hidH (HPG.out k hlt)
          have HBD := hidH (partB_bad (p := p) (f := f) (zs := zs) (wi := wi) k hlt)
          generalize hq : f + preI zs k = q at *
          have HQ := hidH hq
          clear hz hc hq
          go_wp2_with fail
          refine (sSetUp_any _ p q wi _ _ _ (HV0.out.below HB.out)).mono ?_; rintro e w5 ⟨u, rfl, hr, hb⟩
          obtain ⟨ea, ec, rfl⟩ := hr.some
          cases hsb : setB p q wi
          · have HF := hidH (HBD.out hsb)
            have HF2 := hidH (part_no HF.out)
            have B5 := hidH (bThen HB.out hb)
            clear hsb hr hb
            go_wp2_with fail
            go_ret2
            rw [HF.out, HF2.out]
            exact ⟨_, rfl, (RowEs.nil _ 0 _ _ _ (Nat.zero_le _) (fun h => by cases h) (Nat.zero_le _)).lies, bMore (bMore B5.out _) _⟩
          · have ⟨hin, _, _⟩ := setB_in hsb
            have ⟨q1, q2⟩ := of_decide_eq_true (show decide (-200 ≤ q ∧ q ≤ 200) = true from hin)
            have HSB := hidH hsb
            clear hsb hin
            generalize setL p q wi = cs at *
            have hbx := (hb.alloc hb.size (.cells #[.slice ea cs.length ec] 40))
            have RE := hidH (hr.below ((Below.refl _ w5).alloc (Nat.le_refl _) (.cells #[.slice ea cs.length ec] 40)))
            have B5 := hidH (bThen HB.out hbx)
            have W5 := hidH (owns_below HW.out hbx)
            have I5 := hidH (HI.out.below hbx)
            have HLT := hidH (fun g (hg : ov.ownBlock = some g) => (HW.out.lt g hg).2)
            have hs5 := B5.out.size
            rw [World.size_alloc] at hs5
            have NE := hidH (show ∀ (j : Nat) x, [Value.slice ea cs.length ec][j]? = some x → ((w5.alloc (.cells #[.slice ea cs.length ec] 40)).alloc (.cells #[.slice ea cs.length ec] 40)).cell? ((⟨w5.heap.size + 1, 0, none⟩ : Addr).add j) = some x from by
              have h := news_eng (w5.alloc (.cells #[.slice ea cs.length ec] 40)) (.slice ea cs.length ec) 40
              rwa [World.size_alloc] at h)
            clear hr hb hbx
            go_wp2_with (at_builtin; refine wpList_append_lies _ rfl _ _ 23 rfl w.heap.size 40 i0 (.agg #[.slice none 0 0]) 1 24 Try.underlying23 hi0 hz0 hz1 hz2 rfl (by decide) ov k us rfl (owns_below W5.out ((Below.refl _ (w5.alloc (.cells #[.slice ea cs.length ec] 40))).alloc (Nat.le_refl _) _)) ⟨w5.heap.size + 1, 0, none⟩ 1 1 [.slice ea cs.length ec] rfl rfl NE.out (by simp [Value.oneCell']) (by decide) (by unfold maxLen; omega) (by omega) (by simp; omega) _ rfl ?_)
            intro g7 cap7 w7 hown1 hgrow hat hlt7
            have W7 := hidH hown1
            have I7 := hidH ((I5.out.below ((Below.refl _ (w5.alloc (.cells #[.slice ea cs.length ec] 40))).alloc (Nat.le_refl _) _)).snoc (ov' := .slice (some ⟨g7, 0, none⟩) (k + 1) cap7) hgrow hgrow.size rfl (hat.imp id (fun h => by rw [h]; simp)) ((RE.out.lies.below ((Below.refl _ (w5.alloc (.cells #[.slice ea cs.length ec] 40))).alloc (Nat.le_refl _) _)).mono (Nat.le_refl _) (by simp <;> omega)) (fun g hg => HLT.out g hg))
            have B7 := hidH ((B5.out.alloc B5.out.size _).grown hgrow (by have := B5.out.size; simp at this ⊢; omega) fun g hg => (W5.out.lt g hg).1)
            clear hown1 hgrow hat hlt7
            have hcw : w7.cell? ⟨b, off + k, none⟩ = some (.int .i64 z) := by rw [B7.out.cell (p := ⟨b, off + k, none⟩) (cell_blk _ _ _ HCZ.out)]; exact HCZ.out
            go_wp2_with fail
            go_roundw
            case rel =>
              refine ⟨k + 1, _, _, by omega, by go_num, ?_, rfl, fun j hj => ?_, W7.out, by rw [List.take_add_one, HX.out]; exact I7.out, B7.out⟩
              · rw [HPN.out]; have := HQ.out; show Value.int .i64 _ = Value.int .i64 _; congr 1; omega
              · by_cases e : j = k
                · subst e; rw [HQ.out]; exact HSB.out
                · exact HOK.out j (by omega)
            case measure => simp [intOf]; omega
        · obtain rfl : k = zs.length := by omega
          have HY := hidH (partB_of HS.out HOK.out)
          have HY2 := hidH (part_yes HY.out)
          have h := HI.out
          rw [show (partL p f zs wi).take zs.length = partL p f zs wi by rw [← HPL.out, List.take_length]] at h
          have HL := hidH (h.lies HW.out)
          clear h
          go_wp2_with fail
          go_ret2
          rw [HY.out, HY2.out]
          exact ⟨_, rfl, HL.out, HB.out⟩
theorem sPartEng_any (v0 : Value) (p : List Int) (f : Int) (v2 : Value) (zs : List Int) (wi : Int) (w : World) (lo0 hi0 lo2 hi2 : Nat) (hv0 : Lies w lo0 hi0 v0 p) (hv2 : Lies w lo2 hi2 v2 zs) (hn2 : zs.length ≤ 1048576) : Calls Try.prog 13 #[v0, .int .i64 f, v2, .int .i64 wi] w (ReadEsB (partA p f zs wi) (partB p f zs wi) w) := by
  have HR := hidH (rawPart_any v0 p f v2 zs wi w lo0 hi0 lo2 hi2 hv0 hv2 hn2)
  have hl := (partA_len p f zs wi).1
  have HOW := hidH (fun v W h1 (hl : LiesEs W h1 v (partA p f zs wi)) => ownEngs_any v (partA p f zs wi) W h1 hl (by omega) (by
    cases e : partB p f zs wi
    · rw [part_no e]; intro cs hc; cases hc
    · rw [part_yes e]; exact part_pos e))
  clear hl
  go_enter Try.func13, Try.ntmps13
  go_wp2_with fail
  refine HR.out.mono ?_; rintro e w1 ⟨u, rfl, hlu, hb⟩
  have HU := hidH hlu
  have HB := hidH hb
  clear hlu hb
  go_wp2_with fail
  refine (HOW.out _ _ _ HU.out).mono ?_; rintro e w2 ⟨x, rfl, hlx, hb⟩
  have HX := hidH hlx
  have HB2 := hidH (bThen HB.out hb)
  clear hlx hb
  go_wp2_with fail
  go_ret2
  exact ⟨_, rfl, HX.out, HB2.out⟩
end Go.Proofs.Ytgogpajafjihdaa
