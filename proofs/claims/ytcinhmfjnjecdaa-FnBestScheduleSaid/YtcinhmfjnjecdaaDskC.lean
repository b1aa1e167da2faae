/-
  SpanOf: the program, at every argument. No conditions but that slices fit in memory.
-/
import Derived.Test.YtcinhmfjnjecdaaDskB
namespace Go.Proofs.Ytcinhmfjnjecdaa
set_option maxRecDepth 4000
open Go.RowKit
theorem span_noT {T G : List Int} {n : Int} (h : timesOk T = false) : spanA T G n = -1 := by unfold spanA; rw [h]; rfl
theorem span_noE {T G : List Int} {n : Int} (h : nEngOk n = false) : spanA T G n = -1 := by unfold spanA; rw [h, Bool.and_false]; rfl
theorem span_noL {T G : List Int} {n : Int} (h : ¬ G.length = T.length) : spanA T G n = -1 := by unfold spanA; rw [decide_eq_false h, Bool.and_false]; rfl
theorem span_noG {T G : List Int} {n : Int} (h : givOk G n = false) : spanA T G n = -1 := by unfold spanA; rw [h, Bool.and_false]; rfl
theorem span_yes {T G : List Int} {n : Int} (h1 : timesOk T = true) (h2 : nEngOk n = true) (h3 : G.length = T.length) (h4 : givOk G n = true) : spanA T G n = mostL (loadsL T G n.toNat) := by unfold spanA; rw [h1, h2, decide_eq_true h3, h4]; rfl
/-- The greatest load of all three engines is that of those that a schedule may use. -/
theorem span_three {T G : List Int} {n : Int} (h2 : nEngOk n = true) (h4 : givOk G n = true) : mostL (loadsL T G 3) = mostL (loadsL T G n.toNat) := by
  have ⟨a, b⟩ := of_decide_eq_true h2
  exact most_wider T G n.toNat (fun j g hj => by have := givOk_at h4 j g hj; omega) 3 (by omega)
theorem loads_pos {T G : List Int} (h : timesOk T = true) (m : Nat) (j : Nat) (z : Int) (hj : (loadsL T G m)[j]? = some z) : 0 ≤ z ∧ z ≤ 8000 := by
  have hjn : j < m := by have := (List.getElem?_eq_some_iff.1 hj).1; rwa [loadsL_length] at this
  rw [loadsL_get _ _ _ _ hjn] at hj
  injection hj with hj
  have := load_bd (G := G) (j : Int) T.length h
  rw [List.take_length] at this
  omega
theorem loads_pos_take {T G : List Int} (h : timesOk T = true) (k m : Nat) (j : Nat) (z : Int) (hj : (loadsL (T.take k) G m)[j]? = some z) : 0 ≤ z ∧ z ≤ 8000 := by
  have hjn : j < m := by have := (List.getElem?_eq_some_iff.1 hj).1; rwa [loadsL_length] at this
  rw [loadsL_get _ _ _ _ hjn] at hj
  injection hj with hj
  have := load_bd (G := G) (j : Int) k h
  omega
set_option maxHeartbeats 1600000 in
theorem spanOf_any (v0 : Value) (zs0 : List Int) (v1 : Value) (zs1 : List Int) (n : Int) (w : World) (lo0 hi0 lo1 hi1 : Nat) (hv0 : Lies w lo0 hi0 v0 zs0) (hv1 : Lies w lo1 hi1 v1 zs1) : Calls Try.prog 9 #[v0, v1, .int .i64 n] w (Gives (.int .i64 (spanA zs0 zs1 n)) w) := by
  have HT := hidH (timesV_any v0 zs0 w lo0 hi0 hv0)
  have HE := hidH (engV_any n w)
  obtain ⟨a0, cap0, rfl, hlc0, hcm0, _, hcell0⟩ := hv0
  obtain ⟨a1, cap1, rfl, hlc1, hcm1, _, hcell1⟩ := hv1
  unfold maxLen at hcm0 hcm1
  have HC0 := hidH hcell0
  have HC1 := hidH hcell1
  clear hcell0 hcell1
  cases h1 : timesOk zs0
  · have HR := hidH (span_noT (G := zs1) (n := n) h1)
    rw [h1] at HT
    clear h1
    go_enter Try.func9, Try.ntmps9
    go_wp2_with fail
    refine HT.out.mono ?_; rintro e w1 ⟨rfl, rfl⟩
    go_wp2_with fail
    go_ret
    exact ⟨by rw [HR.out]; rfl, Below.refl _ _⟩
  · cases h2 : nEngOk n
    · have HR := hidH (span_noE (T := zs0) (G := zs1) h2)
      rw [h1] at HT
      rw [h2] at HE
      clear h1 h2
      go_enter Try.func9, Try.ntmps9
      go_wp2_with fail
      refine HT.out.mono ?_; rintro e w1 ⟨rfl, rfl⟩
      go_wp2_with fail
      refine HE.out.mono ?_; rintro e w1 ⟨rfl, rfl⟩
      go_wp2_with fail
      go_ret
      exact ⟨by rw [HR.out]; rfl, Below.refl _ _⟩
    · rw [h1] at HT
      rw [h2] at HE
      have H1 := hidH h1
      have H2 := hidH h2
      have ⟨n1, n2⟩ := of_decide_eq_true h2
      have ⟨t1, _⟩ := timesOk_parts h1
      clear h1 h2
      by_cases h3 : zs1.length = zs0.length
      · have H3 := hidH h3
        have hne : ((zs1.length : Int) != (zs0.length : Int)) = false := by rw [h3]; exact bne_self_eq_false _
        clear h3
        go_enter Try.func9, Try.ntmps9
        go_wp2_with fail
        refine HT.out.mono ?_; rintro e w1 ⟨rfl, rfl⟩
        go_wp2_with fail
        refine HE.out.mono ?_; rintro e w1 ⟨rfl, rfl⟩
        go_wp2_with fail
        go_loopw [27] (fun i wr => ∃ k : Nat, k ≤ zs1.length ∧ i = .int .i64 k ∧ (∀ (j : Nat) (g : Int), j < k → zs1[j]? = some g → 0 ≤ g ∧ g ≤ n - 1) ∧ At3 wr w.heap.size 0 (loadsL (zs0.take k) (zs1.take k) 3) ∧ Below w.heap.size w wr) (fun i _ => zs1.length - (intOf i).toNat)
        case atStart => exact ⟨0, Nat.zero_le _, rfl, (fun j g h => absurd h (Nat.not_lt_zero _)), by rw [loadsL_zero]; exact At3.made w _, (Below.refl _ _).alloc (Nat.le_refl _) _⟩
        case round =>
          obtain ⟨k, hk, rfl, hin, hat, hb⟩ := hrel
          have HIN := hidH hin
          have HAT := hidH hat
          have HBq := hidH hb
          clear hin hat hb
          by_cases hlt : k < zs1.length
          · obtain ⟨g, hg⟩ := get_lt zs1 k hlt
            obtain ⟨t, ht⟩ := get_lt zs0 k (by have := H3.out; omega)
            obtain ⟨b1, o1, rfl, _, _, hc1⟩ := HC1.out k g hg
            obtain ⟨b0, o0, rfl, _, _, hc0⟩ := HC0.out k t ht
            have l1 := cell_blk _ _ _ hc1
            have l0 := cell_blk _ _ _ hc0
            have c1 : wr.cell? ⟨b1, o1 + k, none⟩ = some (.int .i64 g) := by rw [HBq.out.cell (p := ⟨b1, o1 + k, none⟩) l1]; exact hc1
            have c0 : wr.cell? ⟨b0, o0 + k, none⟩ = some (.int .i64 t) := by rw [HBq.out.cell (p := ⟨b0, o0 + k, none⟩) l0]; exact hc0
            have HG := hidH hg
            have HTt := hidH ht
            have hkl : k < zs0.length := (List.getElem?_eq_some_iff.1 ht).1
            have hbd := (timesOk_parts H1.out).2 k t ht
            clear hc0 hc1 hg ht
            have HBT := hidH (between_any g 0 (n - 1) (decide (0 ≤ g ∧ g ≤ n - 1)) rfl wr)
            by_cases hin : 0 ≤ g ∧ g ≤ n - 1
            · rw [decide_eq_true hin] at HBT
              have HN := hidH hin
              obtain ⟨m, rfl⟩ : ∃ m : Nat, g = (m : Int) := ⟨g.toNat, by omega⟩
              have hm3 : m < 3 := by omega
              have HBK := hidH (book_any w.heap.size 0 _ m _ t wr HAT.out (loadsL_get _ _ 3 m hm3) (by have := load_bd (G := zs1.take k) (m : Int) k H1.out; omega) (by omega))
              have HNX := hidH (loadsL_next zs0 zs1 k 3 m t HTt.out HG.out)
              clear hin
              generalize loadE (zs0.take k) (zs1.take k) (m : Int) = x at *
              go_wp2_with fail
              refine HBT.out.mono ?_; rintro e w1 ⟨rfl, rfl⟩
              go_wp2_with fail
              refine HBK.out.mono ?_; rintro e w1 ⟨rfl, q, rfl⟩
              go_wp2_with fail
              go_roundw
              case rel =>
                refine ⟨k + 1, by omega, by go_num, fun j y hj hy => ?_, ?_, ?_⟩
                · by_cases e : j = k
                  · subst e; rw [HG.out] at hy; injection hy with hy; rw [← hy]; exact HN.out
                  · exact HIN.out j y (by omega) hy
                · rw [HNX.out]
                  have hst := (HAT.out.drewN q).set m (x + t)
                  rw [Nat.zero_add] at hst
                  exact hst
                · exact (below_drewN HBq.out q).setCell (Nat.le_refl _) _
              case measure => simp [intOf]; omega
            · rw [decide_eq_false hin] at HBT
              have HR := hidH (span_noG (T := zs0) (givOk_no n k g HG.out hin))
              clear hin
              go_wp2_with fail
              refine HBT.out.mono ?_; rintro e w1 ⟨rfl, rfl⟩
              go_wp2_with fail
              go_ret
              exact ⟨by rw [HR.out]; rfl, HBq.out⟩
          · obtain rfl : k = zs1.length := by omega
            have HGV := hidH (givOk_of (n := n) (fun j g hj => HIN.out j g (List.getElem?_eq_some_iff.1 hj).1 hj))
            have HR := hidH (span_yes H1.out H2.out H3.out HGV.out)
            have HS := hidH (span_three (T := zs0) H2.out HGV.out)
            have hat := HAT.out
            rw [List.take_length, show zs0.take zs1.length = zs0 from List.take_of_length_le (by have := H3.out; omega)] at hat
            have HSP := hidH (bspan_any w.heap.size 0 _ wr hat (fun j z hj => (loads_pos H1.out 3 j z hj).1))
            clear hat
            generalize loadsL zs0 zs1 3 = L3 at *
            go_wp2_with fail
            refine HSP.out.mono ?_; rintro e w1 ⟨rfl, rfl⟩
            go_wp2_with fail
            go_ret
            exact ⟨by rw [HR.out, ← HS.out]; rfl, HBq.out⟩
      · have HR := hidH (span_noL (n := n) h3)
        have hne : ((zs1.length : Int) != (zs0.length : Int)) = true := by rw [bne_iff_ne]; omega
        clear h3
        go_enter Try.func9, Try.ntmps9
        go_wp2_with fail
        refine HT.out.mono ?_; rintro e w1 ⟨rfl, rfl⟩
        go_wp2_with fail
        refine HE.out.mono ?_; rintro e w1 ⟨rfl, rfl⟩
        go_wp2_with fail
        go_ret
        exact ⟨by rw [HR.out]; rfl, Below.refl _ _⟩
end Go.Proofs.Ytcinhmfjnjecdaa
