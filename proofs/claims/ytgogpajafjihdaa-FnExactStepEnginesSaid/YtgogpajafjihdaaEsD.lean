/-
  PartEngines: the program, at every argument. No conditions but that slices fit in memory.
-/
import Derived.Test.YtgogpajafjihdaaEsC
import Derived.Laws.MakeOwn
namespace Go.Proofs.Ytgogpajafjihdaa
set_option maxRecDepth 4000
open Go.RowKit
/-- Block b holds the first k engines; the other cells are as they were made. -/
def EsTo (w : World) (b n : Nat) (L : Nat → Nat) (es : List (List ByteArray)) (k : Nat) : Prop := (∀ i, i < n → (∃ x, w.cell? ⟨b, i, none⟩ = some x) ∧ w.frozen? ⟨b, i, none⟩ = false) ∧ (∀ j, j < k → L j ≤ L (j + 1)) ∧ b < L 0 ∧ L k ≤ w.heap.size ∧
  ∀ (j : Nat) cs, j < k → es[j]? = some cs → ∃ u, w.cell? ⟨b, j, none⟩ = some u ∧ RowS w (L j) (L (j + 1)) u cs
def nextE (L : Nat → Nat) (k s j : Nat) : Nat := if j ≤ k then L j else s
theorem nextE_le {L : Nat → Nat} {k s j : Nat} (h : j ≤ k) : nextE L k s j = L j := if_pos h
theorem nextE_gt {L : Nat → Nat} {k s j : Nat} (h : ¬ j ≤ k) : nextE L k s j = s := if_neg h
theorem EsTo.start (w : World) (n t : Nat) (es : List (List ByteArray)) : EsTo (w.alloc (.cells (madeCells #[.slice none 0 0] n) t)) w.heap.size n (fun _ => w.heap.size + 1) es 0 :=
  ⟨fun i hi => ⟨⟨.slice none 0 0, by rw [World.cell?_alloc_at _ _ _ _ rfl]; simp [madeCells, hi, Nat.mod_one]⟩, cells_frozen _ _ _ _⟩, fun _ h => absurd h (Nat.not_lt_zero _), Nat.lt_succ_self _, by simp, fun _ _ h => absurd h (Nat.not_lt_zero _)⟩
theorem EsTo.below {w w' : World} {b n k : Nat} {L : Nat → Nat} {es : List (List ByteArray)} (H : EsTo w b n L es k) (hb : Below w.heap.size w w') : EsTo w' b n L es k := by
  obtain ⟨s1, s2, s3, s4, s5⟩ := H
  have hbw : b < w.heap.size := by have := monoL s2 0 k (Nat.zero_le _) (Nat.le_refl _); omega
  refine ⟨fun i hi => ?_, s2, s3, Nat.le_trans s4 hb.size, fun j cs hj h => ?_⟩
  · rw [hb.cell (p := ⟨b, i, none⟩) hbw, World.frozen?_of_block (w := w) (hb.block b hbw)]; exact s1 i hi
  · obtain ⟨u, g1, g2⟩ := s5 j cs hj h
    exact ⟨u, by rw [hb.cell (p := ⟨b, j, none⟩) hbw]; exact g1, g2.below hb⟩
/-- One more is put into its place. -/
theorem EsTo.put {w : World} {b n k lo hi : Nat} {L : Nat → Nat} {es : List (List ByteArray)} {u : Value} {cs : List ByteArray} (H : EsTo w b n L es k) (hk : k < n) (hx : es[k]? = some cs) (hr : RowS w lo hi u cs) (hlo : L k ≤ lo) (hhi : hi ≤ w.heap.size) (hlh : lo ≤ hi) : EsTo (w.setCell ⟨b, k, none⟩ u) b n (nextE L k hi) es (k + 1) := by
  obtain ⟨s1, s2, s3, s4, s5⟩ := H
  have hm := fun i (hi : i ≤ k) => monoL s2 0 i (Nat.zero_le _) hi
  have hA : Apart b (b + 1) w (w.setCell ⟨b, k, none⟩ u) := Apart.of_onto (Onto.setCell b k w u) (Nat.le_refl _) (Nat.lt_succ_self _)
  obtain ⟨⟨x0, d0⟩, _⟩ := s1 k hk
  refine ⟨fun i hi => ⟨?_, by simpa using (s1 i hi).2⟩, fun j hj => ?_, ?_, ?_, fun j ds hj h => ?_⟩
  · obtain ⟨x, hxx⟩ := (s1 i hi).1
    by_cases e : i = k
    · subst e; exact ⟨_, World.cell?_setCell_same _ _ _ hxx⟩
    · exact ⟨x, by rw [World.cell?_setCell_other _ _ _ _ (by intro h; injection h; omega)]; exact hxx⟩
  · by_cases e : j = k
    · subst e; rw [nextE_le (Nat.le_refl _), nextE_gt (by omega)]; omega
    · rw [nextE_le (by omega), nextE_le (by omega)]; exact s2 j (by omega)
  · rw [nextE_le (Nat.zero_le _)]; exact s3
  · rw [nextE_gt (by omega)]; simpa using hhi
  · by_cases e : j = k
    · subst e
      rw [hx] at h
      injection h with h
      subst h
      refine ⟨u, World.cell?_setCell_same _ _ _ d0, ?_⟩
      rw [nextE_le (Nat.le_refl _), nextE_gt (by omega)]
      exact (hr.apart hA (.inr (by have := hm j (Nat.le_refl _); omega))).mono hlo (Nat.le_refl _)
    · obtain ⟨v, g1, g2⟩ := s5 j ds (by omega) h
      refine ⟨v, by rw [World.cell?_setCell_other _ _ _ _ (by intro h; injection h; omega)]; exact g1, ?_⟩
      rw [nextE_le (by omega), nextE_le (by omega)]
      exact g2.apart hA (.inr (by have := hm j (by omega); omega))
theorem EsTo.row {w : World} {b n lo cap : Nat} {L : Nat → Nat} {es : List (List ByteArray)} (H : EsTo w b n L es n) (hn : es.length = n) (hlo : lo ≤ b) (hc : n ≤ cap) (hm : cap ≤ maxLen) : RowEs w lo w.heap.size (.slice (some ⟨b, 0, none⟩) n cap) es := by
  obtain ⟨s1, s2, s3, s4, s5⟩ := H
  subst hn
  have hb : b < w.heap.size := by have := monoL s2 0 es.length (Nat.zero_le _) (Nat.le_refl _); omega
  refine ⟨some ⟨b, 0, none⟩, b, cap, L, rfl, hc, hm, (fun h => by cases h), fun _ => ⟨rfl, hlo, hb, s3⟩, s2, by omega, s4, fun j cs hj => ?_⟩
  have hjl := (List.getElem?_eq_some_iff.1 hj).1
  obtain ⟨u, g1, g2⟩ := s5 j cs hjl hj
  exact ⟨u, g1, (s1 j hjl).2, g2⟩
theorem made_eng (n : Nat) (w : World) (hn : n ≤ 1048576) : (Instr.makeSlice 23 (.int .i64 (n : Int)) (.int .i64 (n : Int))).run Try.prog w = .ok (.slice (some ⟨w.heap.size, 0, none⟩) n n) (w.alloc (.cells (madeCells #[.slice none 0 0] n) 40)) := by
  obtain ⟨i0, hi0, hz0, hz1, hz2⟩ := info_parts info_eng
  have hr := run_make (P := Try.prog) (w := w) 23 40 i0 _ Try.underlying23 hi0 hz0 .i64 .i64 n n (by omega) (Int.le_refl _) (by rw [hz2]; omega) (by omega)
  rw [hz1] at hr
  simpa [Value.cells] using hr
set_option maxHeartbeats 1600000 in
theorem partEng_any (v0 : Value) (p : List Int) (f : Int) (v2 : Value) (zs : List Int) (wi : Int) (w : World) (lo0 hi0 lo2 hi2 : Nat) (hv0 : Lies w lo0 hi0 v0 p) (hv2 : Lies w lo2 hi2 v2 zs) (hn2 : zs.length ≤ 1048576) : Calls Try.prog 14 #[v0, .int .i64 f, v2, .int .i64 wi] w (NewEsB (partA p f zs wi) (partB p f zs wi) w) := by
  have HV0 := hidH hv0
  have HAS := hidH (areSizes_any v2 zs w lo2 hi2 hv2)
  obtain ⟨a2, cap2, rfl, hlc, hcm, hnil, hcell⟩ := hv2
  unfold maxLen at hcm
  have HC := hidH hcell
  clear hcell hnil hv0
  cases hs : szOk zs
  · have HF := hidH (show partB p f zs wi = false by rw [partB, hs]; rfl)
    have HF2 := hidH (part_no HF.out)
    rw [hs] at HAS
    clear hs
    go_enter Try.func14, Try.ntmps14
    go_wp2_with fail
    refine HAS.out.mono ?_; rintro e w1 ⟨rfl, hww⟩
    rw [hww]
    clear hww
    go_wp2_with fail
    go_ret2
    rw [HF.out, HF2.out]
    exact ⟨_, rfl, RowEs.nil _ _ _ _ _ (Nat.zero_le _) (fun _ => rfl) (Nat.le_refl _), Below.refl _ _⟩
  · have ⟨n1, n10, hnn, hsum⟩ := szOk_parts hs
    have HNN := hidH hnn
    have HPB := hidH (fun k => pre_bd hnn k)
    have HSU := hidH hsum
    have HS := hidH hs
    rw [hs] at HAS
    have HM := hidH (EsTo.start w zs.length 40 (partL p f zs wi))
    have hmk := made_eng zs.length w hn2
    have HPG := hidH (fun k hk => partL_get p f zs wi k hk)
    have HPL := hidH (partL_length p f zs wi)
    clear hs hnn hsum
    go_enter Try.func14, Try.ntmps14
    go_wp2_with fail
    refine HAS.out.mono ?_; rintro e w1 ⟨rfl, hww⟩
    rw [hww]
    clear hww
    go_wp2_with fail
    go_loopw [11, 25] (fun m i wr => ∃ (k : Nat) (L : Nat → Nat), k ≤ zs.length ∧ i = .int .i64 k ∧ m = .int .i64 (f + preI zs k) ∧ (∀ j, j < k → setB p (f + preI zs j) wi = true) ∧ EsTo wr w.heap.size zs.length L (partL p f zs wi) k ∧ Below w.heap.size w wr) (fun _ i _ => zs.length - (intOf i).toNat)
    case atStart => exact ⟨0, _, Nat.zero_le _, rfl, by simp [preI], (fun _ h => absurd h (Nat.not_lt_zero _)), HM.out, (Below.refl _ _).alloc (Nat.le_refl _) _⟩
    case round =>
      obtain ⟨k, L, hk, rfl, rfl, hok, hto, hb⟩ := hrel
      have HOK := hidH hok
      have HT := hidH hto
      have HB := hidH hb
      clear hok hto hb
      by_cases hlt : k < zs.length
      · obtain ⟨z, hz⟩ := get_lt zs k hlt
        obtain ⟨b, off, rfl, _, _, hc⟩ := HC.out k z hz
        have hcw : wr.cell? ⟨b, off + k, none⟩ = some (.int .i64 z) := by rw [HB.out.cell (p := ⟨b, off + k, none⟩) (cell_blk _ _ _ hc)]; exact hc
        have HPN := hidH (preI_next zs k z hz)
        have hz0 : 0 ≤ z := HNN.out z (List.mem_of_getElem? hz)
        have hz60 : z ≤ 60 := by
          have h1 := HPB.out k
          have h2 := HPB.out (k + 1)
          rw [HPN.out] at h2
          have := HSU.out
          omega
        have HX := hidH (HPG.out k hlt)
        have HBD := hidH (partB_bad (p := p) (f := f) (zs := zs) (wi := wi) k hlt)
        generalize hq : f + preI zs k = q at *
        have HQ := hidH hq
        clear hz hc hq
        go_wp2_with fail
        refine (setUp_any _ p q wi _ _ _ (HV0.out.below HB.out)).mono ?_; rintro e w5 ⟨u, rfl, hr, hb⟩
        have RE := hidH hr
        have B5 := hidH (bThen HB.out hb)
        have T5 := hidH (HT.out.below hb)
        have hs5 := hb.size
        obtain ⟨ua, uc, rfl⟩ := hr.some
        clear hr hb hcw
        cases hsb : setB p q wi
        · have HF := hidH (HBD.out hsb)
          have HF2 := hidH (part_no HF.out)
          clear hsb
          go_wp2_with fail
          go_ret2
          rw [HF.out, HF2.out]
          exact ⟨_, rfl, RowEs.nil _ _ _ _ _ (Nat.zero_le _) (fun _ => rfl) (by simp; have := B5.out.size; omega), bMore B5.out _⟩
        · have ⟨hin, _, _⟩ := setB_in hsb
          have ⟨q1, q2⟩ := of_decide_eq_true (show decide (-200 ≤ q ∧ q ≤ 200) = true from hin)
          have HSB := hidH hsb
          clear hsb hin
          generalize setL p q wi = cs at *
          have BX := hidH (bMore (Below.refl w5.heap.size w5) (.cells #[.slice ua cs.length uc] 40))
          have T6 := hidH (T5.out.below BX.out)
          have R6 := hidH (RE.out.below BX.out)
          have B6 := hidH (bThen B5.out BX.out)
          obtain ⟨⟨x0, d0⟩, f0⟩ := T6.out.1 k hlt
          have hLk : L k ≤ wr.heap.size := HT.out.2.2.2.1
          have T7 := hidH (T6.out.put hlt HX.out R6.out hLk (by simp) hs5)
          go_wp2_with fail
          go_roundw
          case rel =>
            refine ⟨k + 1, _, by omega, by go_num, ?_, fun j hj => ?_, T7.out, B6.out.setCell (Nat.le_refl _) _⟩
            · rw [HPN.out]; have := HQ.out; show Value.int .i64 _ = Value.int .i64 _; congr 1; omega
            · by_cases e : j = k
              · subst e; rw [HQ.out]; exact HSB.out
              · exact HOK.out j (by omega)
          case measure => simp [intOf]; omega
      · obtain rfl : k = zs.length := by omega
        have HY := hidH (partB_of HS.out HOK.out)
        have HY2 := hidH (part_yes HY.out)
        have HRW := hidH (HT.out.row HPL.out (Nat.le_refl _) (Nat.le_refl _) (by unfold maxLen; omega))
        go_wp2_with fail
        go_ret2
        rw [HY.out, HY2.out]
        exact ⟨_, rfl, HRW.out, HB.out⟩
end Go.Proofs.Ytgogpajafjihdaa
