/-
  Loads, the greatest of them, the engine that is free first, and SpanOf: the model, at every argument. No conditions but that slices fit in memory.
-/
import Derived.Test.YtcinhmfjnjecdaaDskC
namespace Go.Proofs.Ytcinhmfjnjecdaa
set_option maxRecDepth 4000
open Go.RowKit
theorem ints_next (L : List Int) (k : Nat) (x : Int) (h : L[k]? = some x) : ints (L.take k) ++ [Value.int .i64 x] = ints (L.take (k + 1)) := by
  unfold ints
  rw [take_next L k x h, List.map_append]; rfl
set_option maxHeartbeats 1600000 in
theorem sLoads_any (v0 : Value) (zs0 : List Int) (v1 : Value) (zs1 : List Int) (m : Nat) (w : World) (lo0 hi0 lo1 hi1 : Nat) (hv0 : Lies w lo0 hi0 v0 zs0) (hv1 : Lies w lo1 hi1 v1 zs1) (hm : m ≤ 3) (hT : timesOk zs0 = true) (hG : ∀ (j : Nat) (g : Int), zs1[j]? = some g → 0 ≤ g ∧ g < m) (hl : zs1.length ≤ zs0.length) :
    Calls Try.prog 38 #[v0, v1, .int .i64 (m : Int)] w (NewRow (loadsL zs0 zs1 m) w) := by
  obtain ⟨a0, cap0, rfl, hlc0, hcm0, _, hcell0⟩ := hv0
  obtain ⟨a1, cap1, rfl, hlc1, hcm1, _, hcell1⟩ := hv1
  unfold maxLen at hcm0 hcm1
  have HC0 := hidH hcell0
  have HC1 := hidH hcell1
  have H1 := hidH hT
  have HGG := hidH hG
  have HM := hidH (Blk.made w 3 m)
  have hmk := run_make_row' (P := Try.prog) 23 3 (.int .i64 0) 8 Try.underlying23 infoInt rfl .i64 .i64 m (by omega) (by omega) w
  clear hcell0 hcell1 hT hG
  go_enter Try.func38, Try.ntmps38
  go_wp2_with fail
  go_loopw [8] (fun i wr => ∃ k : Nat, k ≤ zs1.length ∧ i = .int .i64 k ∧ Blk wr w.heap.size (loadsL (zs0.take k) (zs1.take k) m) ∧ Below w.heap.size w wr) (fun i _ => zs1.length - (intOf i).toNat)
  case atStart => exact ⟨0, Nat.zero_le _, rfl, by rw [loadsL_zero]; exact HM.out, (Below.refl _ _).alloc (Nat.le_refl _) _⟩
  case round =>
    obtain ⟨k, hk, rfl, hblk, hb⟩ := hrel
    have HBK := hidH hblk
    have HBq := hidH hb
    clear hblk hb
    by_cases hlt : k < zs1.length
    · obtain ⟨g, hg⟩ := get_lt zs1 k hlt
      obtain ⟨t, ht⟩ := get_lt zs0 k (by omega)
      obtain ⟨b1, o1, rfl, _, _, hc1⟩ := HC1.out k g hg
      obtain ⟨b0, o0, rfl, _, _, hc0⟩ := HC0.out k t ht
      have l1 := cell_blk _ _ _ hc1
      have l0 := cell_blk _ _ _ hc0
      have c1 : wr.cell? ⟨b1, o1 + k, none⟩ = some (.int .i64 g) := by rw [HBq.out.cell (p := ⟨b1, o1 + k, none⟩) l1]; exact hc1
      have c0 : wr.cell? ⟨b0, o0 + k, none⟩ = some (.int .i64 t) := by rw [HBq.out.cell (p := ⟨b0, o0 + k, none⟩) l0]; exact hc0
      have ⟨g1, g2⟩ := HGG.out k g hg
      have ⟨t1, t2⟩ := (timesOk_parts H1.out).2 k t ht
      have hkl : k < zs0.length := by omega
      obtain ⟨e, rfl⟩ : ∃ e : Nat, g = (e : Int) := ⟨g.toNat, by omega⟩
      have hem : e < m := by omega
      have ⟨x1, x2⟩ := load_bd (G := zs1.take k) (e : Int) k H1.out
      have HNX := hidH (loadsL_next zs0 zs1 k m e t ht hg)
      obtain ⟨cx, fx⟩ := HBK.out.2 e _ (loadsL_get _ _ m e hem)
      clear hg ht hc0 hc1
      generalize loadE (zs0.take k) (zs1.take k) (e : Int) = x at *
      have hs : IntKind.i64.wrap (x + t) = x + t := IntWalk.i64_in _ (by omega)
      go_wp2_with fail
      go_region
      go_wp2_with fail
      go_roundw
      case rel =>
        refine ⟨k + 1, by omega, by go_num, ?_, ?_⟩
        · rw [HNX.out]; exact (HBK.out.drewN 1).set e _
        · exact (below_drewN HBq.out 1).setCell (Nat.le_refl _) _
      case measure => simp [intOf]; omega
    · obtain rfl : k = zs1.length := by omega
      go_wp2_with fail
      go_ret
      have h := HBK.out
      rw [List.take_length, loadsL_cut] at h
      exact ⟨_, rfl, h.row (Nat.le_refl _) h.1 (by rw [loadsL_length]; exact Nat.le_refl _) (by unfold maxLen; omega) (loadsL_length _ _ _).symm, HBq.out⟩
theorem sMost_any (v : Value) (zs : List Int) (w : World) (lo hi : Nat) (hv : Lies w lo hi v zs) : Calls Try.prog 37 #[v] w fun e w' => e = .returned (.int .i64 (mostL zs)) ∧ w = w' := by
  obtain ⟨a, cap, rfl, hlc, hcm, _, hcell⟩ := hv
  unfold maxLen at hcm
  have HC := hidH hcell
  clear hcell
  go_enter Try.func37, Try.ntmps37
  go_wp2_with fail
  go_loop [3, 4] (fun u i => ∃ k : Nat, k ≤ zs.length ∧ i = .int .i64 k ∧ u = .int .i64 (mostL (zs.take k))) (fun _ i => zs.length - (intOf i).toNat)
  case atStart => exact ⟨0, Nat.zero_le _, rfl, rfl⟩
  case round =>
    obtain ⟨k, hk, rfl, rfl⟩ := hrel
    by_cases hlt : k < zs.length
    · obtain ⟨z, hz⟩ := get_lt zs k hlt
      obtain ⟨b, off, rfl, _, _, c⟩ := HC.out k z hz
      have HM := hidH (mostL_next zs k z hz)
      clear hz
      generalize mostL (zs.take k) = u at *
      go_wp2_with fail
      go_round
      case rel => exact ⟨k + 1, by omega, by go_num, by rw [HM.out]; congr 1; split <;> omega⟩
      case measure => simp [intOf]; omega
    · obtain rfl : k = zs.length := by omega
      have HE : Hid (mostL (zs.take zs.length) = mostL zs) := by rw [List.take_length]; exact rfl
      go_wp2_with fail
      go_ret
      exact ⟨rfl, rfl⟩
theorem isFree_one (l : List Int) (h : 0 < l.length) : IsFree (l.take 1) 0 := by
  obtain ⟨x, hx⟩ := get_lt l 0 h
  rw [take_next l 0 x hx]
  refine ⟨x, rfl, fun j y hj => ?_, fun j y hj _ => absurd hj (Nat.not_lt_zero _)⟩
  have := (List.getElem?_eq_some_iff.1 hj).1
  have : j = 0 := by simp at this; omega
  subst this
  injection hj with hj; omega
theorem isFree_new {l : List Int} {k i : Nat} {x z : Int} (h : IsFree (l.take i) k) (hx : l[k]? = some x) (hki : k < i) (hz : l[i]? = some z) (hlt : z < x) : IsFree (l.take (i + 1)) i := by
  obtain ⟨x', hx', h1, h2⟩ := h
  rw [List.getElem?_take, if_pos hki, hx] at hx'
  injection hx' with hx'
  subst hx'
  refine ⟨z, by rw [List.getElem?_take, if_pos (by omega)]; exact hz, fun j y hj => ?_, fun j y hj hy => ?_⟩
  · rw [List.getElem?_take] at hj
    split at hj
    · by_cases e : j = i
      · subst e; rw [hz] at hj; injection hj with hj; omega
      · have := h1 j y (by rw [List.getElem?_take, if_pos (by omega)]; exact hj); omega
    · cases hj
  · rw [List.getElem?_take, if_pos (by omega)] at hy
    have := h1 j y (by rw [List.getElem?_take, if_pos hj]; exact hy); omega
theorem isFree_old {l : List Int} {k i : Nat} {x z : Int} (h : IsFree (l.take i) k) (hx : l[k]? = some x) (hki : k < i) (hz : l[i]? = some z) (hlt : ¬ z < x) : IsFree (l.take (i + 1)) k := by
  obtain ⟨x', hx', h1, h2⟩ := h
  rw [List.getElem?_take, if_pos hki, hx] at hx'
  injection hx' with hx'
  subst hx'
  refine ⟨x, by rw [List.getElem?_take, if_pos (by omega)]; exact hx, fun j y hj => ?_, fun j y hj hy => ?_⟩
  · rw [List.getElem?_take] at hj
    split at hj
    · by_cases e : j = i
      · subst e; rw [hz] at hj; injection hj with hj; omega
      · exact h1 j y (by rw [List.getElem?_take, if_pos (by omega)]; exact hj)
    · cases hj
  · rw [List.getElem?_take, if_pos (by omega)] at hy
    exact h2 j y hj (by rw [List.getElem?_take, if_pos (by omega)]; exact hy)
set_option maxHeartbeats 800000 in
theorem sFree_any (v : Value) (zs : List Int) (w : World) (lo hi : Nat) (hv : Lies w lo hi v zs) (h0 : 0 < zs.length) : Calls Try.prog 45 #[v] w (Gives (.int .i64 (freeI zs : Int)) w) := by
  obtain ⟨b, off, cap, rfl, hlc, hcm, _, _, hbw, hcell⟩ := hv.addr h0
  unfold maxLen at hcm
  have HC := hidH hcell
  have HF1 := hidH (isFree_one zs h0)
  clear hcell
  go_enter Try.func45, Try.ntmps45
  go_wp2_with fail
  go_loopw [3, 4] (fun u i wr => ∃ k q f : Nat, 1 ≤ k ∧ k ≤ zs.length ∧ i = .int .i64 k ∧ u = .int .i64 f ∧ f < k ∧ IsFree (zs.take k) f ∧ wr = w.drewN q) (fun _ i _ => zs.length - (intOf i).toNat)
  case atStart => exact ⟨1, 0, 0, Nat.le_refl _, h0, rfl, rfl, by omega, HF1.out, rfl⟩
  case round =>
    obtain ⟨k, q, f, hk1, hk, rfl, rfl, hfk, hf, rfl⟩ := hrel
    have HF := hidH hf
    clear hf
    by_cases hlt : k < zs.length
    · obtain ⟨z, hz⟩ := get_lt zs k hlt
      obtain ⟨x, hx⟩ := get_lt zs f (by omega)
      have c1 : w.cell? ⟨b, off + k, none⟩ = some (.int .i64 z) := HC.out k z hz
      have c2 : w.cell? ⟨b, off + f, none⟩ = some (.int .i64 x) := HC.out f x hx
      have hfl : f < zs.length := by omega
      have HZ := hidH hz
      have HX := hidH hx
      clear hz hx
      by_cases c : z < x
      · have HN := hidH (isFree_new HF.out HX.out hfk HZ.out c)
        go_wp2_with fail
        go_region
        go_wp2_with fail
        go_roundw
        case rel => exact ⟨k + 1, q + 1, k, by omega, by omega, by go_num, rfl, by omega, HN.out, rfl⟩
        case measure => simp [intOf]; omega
      · have HN := hidH (isFree_old HF.out HX.out hfk HZ.out c)
        have c' : decide (z < x) = false := decide_eq_false c
        go_wp2_with fail
        go_region
        go_wp2_with fail
        go_roundw
        case rel => exact ⟨k + 1, q + 1, f, by omega, by omega, by go_num, rfl, by omega, HN.out, rfl⟩
        case measure => simp [intOf]; omega
    · obtain rfl : k = zs.length := by omega
      have HE : Hid (freeI zs = f) := by
        have h := HF.out
        rw [List.take_length] at h
        exact freeI_eq h
      go_wp2_with fail
      go_ret
      exact ⟨by rw [HE.out]; rfl, below_drewN (Below.refl _ _) _⟩
set_option maxHeartbeats 1600000 in
theorem sSpanOf_any (v0 : Value) (zs0 : List Int) (v1 : Value) (zs1 : List Int) (n : Int) (w : World) (lo0 hi0 lo1 hi1 : Nat) (hv0 : Lies w lo0 hi0 v0 zs0) (hv1 : Lies w lo1 hi1 v1 zs1) : Calls Try.prog 10 #[v0, v1, .int .i64 n] w (Gives (.int .i64 (spanA zs0 zs1 n)) w) := by
  have HE := hidH (sEng_any v0 zs0 n w lo0 hi0 hv0)
  have HV0 := hidH hv0
  have HV1 := hidH hv1
  obtain ⟨a0, cap0, rfl, hlc0, hcm0, _, _⟩ := hv0
  obtain ⟨a1, cap1, rfl, hlc1, hcm1, _, hcell1⟩ := hv1
  unfold maxLen at hcm0 hcm1
  have HC1 := hidH hcell1
  clear hcell1
  cases h1 : timesOk zs0 && nEngOk n
  · have HR : Hid (spanA zs0 zs1 n = -1) := by show spanA zs0 zs1 n = -1; unfold spanA; rw [h1]; rfl
    rw [h1] at HE
    clear h1
    go_enter Try.func10, Try.ntmps10
    go_wp2_with fail
    refine HE.out.mono ?_; rintro e w1 ⟨rfl, rfl⟩
    go_wp2_with fail
    go_ret
    exact ⟨by rw [HR.out]; rfl, Below.refl _ _⟩
  · rw [h1] at HE
    rw [Bool.and_eq_true] at h1
    have H1 := hidH h1.1
    have H2 := hidH h1.2
    have ⟨n1, n2⟩ := of_decide_eq_true h1.2
    have ⟨t1, _⟩ := timesOk_parts h1.1
    clear h1
    by_cases h3 : zs1.length = zs0.length
    · have H3 := hidH h3
      have hne : ((zs1.length : Int) != (zs0.length : Int)) = false := by rw [h3]; exact bne_self_eq_false _
      clear h3
      go_enter Try.func10, Try.ntmps10
      go_wp2_with fail
      refine HE.out.mono ?_; rintro e w1 ⟨rfl, rfl⟩
      go_wp2_with fail
      go_loop [7] (fun i => ∃ k : Nat, k ≤ zs1.length ∧ i = .int .i64 k ∧ (∀ (j : Nat) (g : Int), j < k → zs1[j]? = some g → 0 ≤ g ∧ g ≤ n - 1)) (fun i => zs1.length - (intOf i).toNat)
      case atStart => exact ⟨0, Nat.zero_le _, rfl, (fun j g h => absurd h (Nat.not_lt_zero _))⟩
      case round =>
        obtain ⟨k, hk, rfl, hin⟩ := hrel
        have HIN := hidH hin
        clear hin
        by_cases hlt : k < zs1.length
        · obtain ⟨g, hg⟩ := get_lt zs1 k hlt
          obtain ⟨b1, o1, rfl, _, _, hc1⟩ := HC1.out k g hg
          have HG := hidH hg
          clear hg
          have HBT := hidH (sIn_any g 0 (n - 1) (decide (0 ≤ g ∧ g ≤ n - 1)) rfl w)
          by_cases hin : 0 ≤ g ∧ g ≤ n - 1
          · rw [decide_eq_true hin] at HBT
            have HN := hidH hin
            clear hin
            go_wp2_with fail
            refine HBT.out.mono ?_; rintro e w1 ⟨rfl, rfl⟩
            go_wp2_with fail
            go_round
            case rel =>
              refine ⟨k + 1, by omega, by go_num, fun j y hj hy => ?_⟩
              by_cases e : j = k
              · subst e; rw [HG.out] at hy; injection hy with hy; rw [← hy]; exact HN.out
              · exact HIN.out j y (by omega) hy
            case measure => simp [intOf]; omega
          · rw [decide_eq_false hin] at HBT
            have HR := hidH (span_noG (T := zs0) (givOk_no n k g HG.out hin))
            clear hin
            go_wp2_with fail
            refine HBT.out.mono ?_; rintro e w1 ⟨rfl, rfl⟩
            go_wp2_with fail
            go_ret
            exact ⟨by rw [HR.out]; rfl, Below.refl _ _⟩
        · obtain rfl : k = zs1.length := by omega
          have HGV := hidH (givOk_of (n := n) (fun j g hj => HIN.out j g (List.getElem?_eq_some_iff.1 hj).1 hj))
          have HR := hidH (span_yes H1.out H2.out H3.out HGV.out)
          obtain ⟨m, rfl⟩ : ∃ m : Nat, n = (m : Int) := ⟨n.toNat, by omega⟩
          have HLD := hidH (sLoads_any _ zs0 _ zs1 m w _ _ _ _ HV0.out HV1.out (by omega) H1.out (fun j g hj => by have := givOk_at HGV.out j g hj; omega) (by have := H3.out; omega))
          go_wp2_with fail
          refine HLD.out.mono ?_; rintro e w1 ⟨v9, rfl, hr, hb⟩
          have HRr := hidH hr
          have HB1 := hidH hb
          clear hr hb
          go_wp2_with fail
          refine (sMost_any _ _ w1 _ _ HRr.out.lies).mono ?_; rintro e w2 ⟨rfl, rfl⟩
          go_wp2_with fail
          go_ret
          exact ⟨by rw [HR.out, Int.toNat_natCast]; rfl, HB1.out⟩
    · have HR := hidH (span_noL (n := n) h3)
      have hne : ((zs1.length : Int) != (zs0.length : Int)) = true := by rw [bne_iff_ne]; omega
      clear h3
      go_enter Try.func10, Try.ntmps10
      go_wp2_with fail
      refine HE.out.mono ?_; rintro e w1 ⟨rfl, rfl⟩
      go_wp2_with fail
      go_ret
      exact ⟨by rw [HR.out]; rfl, Below.refl _ _⟩
end Go.Proofs.Ytcinhmfjnjecdaa
