/-
  The walk of the law FnGreedyDegree. No conditions but that slices fit in memory.
-/
import Derived.Test.YtmmcdmnmhpbehaaPlfB
import Derived.Test.YtmmcdmnmhpbehaaPlanF
import Derived.Test.YtmmcdmnmhpbehaaDeFns
namespace Go.Proofs.Ytmmcdmnmhpbehaa
set_option maxRecDepth 4000
open Go.RowKit
theorem fewA_yes {zs : List Int} {n : Int} (h : smallOk zs = true) (hd : degOk n = true) : fewA zs n = ((fewN (n.toNat + 1) zs : Nat) : Int) := by unfold fewA; rw [h, hd]; rfl
theorem fewA_no {zs : List Int} {n : Int} (h : (smallOk zs && degOk n) = false) : fewA zs n = -1 := by unfold fewA; rw [h]; rfl
theorem few_bd {zs : List Int} (n : Int) (h : smallOk zs = true) : fewN (n.toNat + 1) zs ≤ 60 := by
  have := few_le (n.toNat + 1) zs (by omega)
  have := ((small_iff zs).1 h).2.1
  omega
/-- With a higher degree no more segments are needed. -/
theorem few_degree {zs : List Int} {n : Int} (h : smallOk zs = true) (hd : degOk n = true) (h6 : n ≠ 6) : 1 ≤ fewA zs (n + 1) ∧ fewA zs (n + 1) ≤ fewA zs n ∧ fewA zs n ≤ (zs.length : Int) ∧ fewA zs n ≤ 60 := by
  have ⟨a, b⟩ := of_decide_eq_true hd
  have hd1 : degOk (n + 1) = true := decide_eq_true (by omega)
  rw [fewA_yes h hd, fewA_yes h hd1, show (n + 1).toNat = n.toNat + 1 by omega]
  have h1 := few_more (n.toNat + 1) zs (by omega)
  have h2 := few_le (n.toNat + 1) zs (by omega)
  have h3 := few_pos (n.toNat + 1 + 1) zs (by omega) ((small_iff zs).1 h).1
  have h4 := few_bd n h
  omega
/-- Parts of a table need nearly as many segments. -/
theorem few_parts {zs : List Int} {n : Int} (h : smallOk zs = true) (hd : degOk n = true) (h2 : 2 ≤ zs.length) (q : Nat) (hq1 : 1 ≤ q) (hq : q < zs.length) :
    (fewA (zs.take (zs.length - 1)) n = fewA zs n ∨ fewA (zs.take (zs.length - 1)) n = fewA zs n - 1) ∧ (fewA (zs.drop 1) n = fewA zs n ∨ fewA (zs.drop 1) n = fewA zs n - 1) ∧ fewA zs n ≤ fewA (zs.take q) n + fewA (zs.drop q) n ∧ fewA (zs.take q) n + fewA (zs.drop q) n ≤ fewA zs n + 1 ∧ 0 ≤ fewA zs n ∧ fewA zs n ≤ 60 ∧ 0 ≤ fewA (zs.take q) n ∧ 0 ≤ fewA (zs.drop q) n := by
  rw [fewA_yes h hd, fewA_yes (small_take zs h _ (by omega)) hd, fewA_yes (small_drop zs h 1 (by omega)) hd, fewA_yes (small_take zs h q hq1) hd, fewA_yes (small_drop zs h q hq) hd]
  have a := few_take (n.toNat + 1) zs (zs.length - 1) (by omega) (by omega)
  rw [few_last (n.toNat + 1) zs (by omega) (by omega)] at a
  have b := few_first (n.toNat + 1) zs (by omega) (by omega)
  have c := few_take (n.toNat + 1) zs q (by omega) hq
  have e := few_bd n h
  omega
/-- A drawn slice of numbers and a degree. -/
def DrawTd (w : World) (e : Ending) (w' : World) : Prop := ∃ (v : Value) (zs : List Int) (d : Int), e = .returned (.tuple #[v, .int .i64 d]) ∧ Lies w' 0 w'.heap.size v zs ∧ zs.length ≤ 61 ∧ -1 ≤ d ∧ d ≤ 7 ∧ Below w.heap.size w w'
theorem drawFewest (a : Option Addr) (len cap : Nat) (w : World) (hc : Came w a len cap) (hl : len ≤ 1048576) : Calls Try.prog 8 #[.slice a len cap] w (DrawTd w) := by
  have HO := hidH (opened_any a len cap w hc hl)
  clear hc
  go_enter Try.func8, Try.ntmps8
  go_wp2_with fail
  refine HO.out.mono ?_
  rintro e w1 ⟨rfl, hR, hB⟩
  have R1 := hidH hR
  have B1 := hidH hB
  have s1 := hB.size
  clear hR hB HO
  go_wp2_with fail
  refine (some5_any w.heap.size 0 w1 R1.out (by omega)).mono ?_
  rintro e w2 ⟨v, zs, d, rfl, hL, h61, d1, d7, hR, hO⟩
  have K2 := hidH hL
  have O2 := hidH hO
  clear hL hR hO R1
  go_wp2_with fail
  go_ret2
  exact ⟨v, zs, d, rfl, K2.out.top, h61, d1, d7, B1.out.trans (O2.out.below (Nat.le_refl _) s1)⟩
set_option maxHeartbeats 3200000 in
theorem lawGreedyDegree (a : Option Addr) (len cap : Nat) (w : World) (hc : Came w a len cap) : Calls Try.prog 3 #[.slice a len cap] w (Gives (.bool true) w) := by
  have HC := hidH hc
  have hc1 := hc.lenLe
  have hc2 := hc.capLe
  unfold maxLen at hc2
  by_cases hbig : 1048576 < len
  · go_enter Try.func3, Try.ntmps3
    go_wp2
    go_ret
    exact ⟨rfl, Below.refl _ _⟩
  have hsm : len ≤ 1048576 := by omega
  clear hbig hc
  go_enter Try.func3, Try.ntmps3
  have B0 := hidH (Below.refl w.heap.size w)
  go_wp2_with fail
  refine (drawFewest a len cap _ HC.out hsm).mono ?_; rintro e w1 ⟨v, zs, n, rfl, hz, hl61, hn0, hn1, hb⟩
  have B1 := hidH (bThen B0.out hb)
  have s1 := hb.size
  have LZ_1 := hidH hz
  clear hb B0  hz
  obtain ⟨za, zcap, rfl, zc1, zc2, _⟩ := LZ_1.out
  unfold maxLen at zc2
  cases hv : smallOk zs && degOk n
  · have HT := hidH (fewA_no hv)
    clear hv
    go_wp2_with fail
    refine (fewest_any _ zs n _ _ _ LZ_1.out).mono ?_; rintro e w2 ⟨rfl, hb⟩
    rw [HT.out]
    have B2 := hidH (bThen B1.out hb)
    have s2 := hb.size
    have LZ_2 := hidH (LZ_1.out.below hb)
    clear hb B1 LZ_1
    go_wp2_with fail
    refine (sFewest_any _ zs n _ _ _ LZ_2.out).mono ?_; rintro e w3 ⟨rfl, hb⟩
    rw [HT.out]
    have B3 := hidH (bThen B2.out hb)
    have s3 := hb.size
    have LZ_3 := hidH (LZ_2.out.below hb)
    clear hb B2 LZ_2
    go_wp2_with fail
    refine (sFewest_any _ zs n _ _ _ LZ_3.out).mono ?_; rintro e w4 ⟨rfl, hb⟩
    rw [HT.out]
    have B4 := hidH (bThen B3.out hb)
    have s4 := hb.size
    have LZ_4 := hidH (LZ_3.out.below hb)
    clear hb B3 LZ_3
    go_wp2_with fail
    go_ret
    exact ⟨rfl, B4.out⟩
  · rw [Bool.and_eq_true] at hv
    obtain ⟨hs, hd⟩ := hv
    have hnn := of_decide_eq_true hd
    have hf0 : 0 ≤ fewA zs n ∧ fewA zs n ≤ 60 := by rw [fewA_yes hs hd]; have := few_bd n hs; omega
    obtain ⟨hf0, hf60⟩ := hf0
    by_cases h6 : n = 6
    · subst h6
      have HFG := hidH (fun W lo hi h => fewest_any (.slice za zs.length zcap) zs 6 W lo hi h)
      have HSG := hidH (fun W lo hi h => sFewest_any (.slice za zs.length zcap) zs 6 W lo hi h)
      generalize fewA zs 6 = fw at *
      go_wp2_with fail
      refine (HFG.out _ _ _ LZ_1.out).mono ?_; rintro e w2 ⟨rfl, hb⟩
      have B2 := hidH (bThen B1.out hb)
      have s2 := hb.size
      have LZ_2 := hidH (LZ_1.out.below hb)
      clear hb B1 LZ_1
      go_wp2_with fail
      refine (HSG.out _ _ _ LZ_2.out).mono ?_; rintro e w3 ⟨rfl, hb⟩
      have B3 := hidH (bThen B2.out hb)
      have s3 := hb.size
      have LZ_3 := hidH (LZ_2.out.below hb)
      clear hb B2 LZ_2
      go_wp2_with fail
      refine (HSG.out _ _ _ LZ_3.out).mono ?_; rintro e w4 ⟨rfl, hb⟩
      have B4 := hidH (bThen B3.out hb)
      have s4 := hb.size
      have LZ_4 := hidH (LZ_3.out.below hb)
      clear hb B3 LZ_3
      go_wp2_with fail
      go_ret
      exact ⟨rfl, B4.out⟩
    · have ⟨q1, q2, q3, q4⟩ := few_degree hs hd h6
      have h6b : (n == 6) = false := beq_eq_false_iff_ne.2 h6
      have HFG := hidH (fun W lo hi h => fewest_any (.slice za zs.length zcap) zs n W lo hi h)
      have HSG := hidH (fun W lo hi h => sFewest_any (.slice za zs.length zcap) zs n W lo hi h)
      have HFH := hidH (fun W lo hi h => fewest_any (.slice za zs.length zcap) zs (n + 1) W lo hi h)
      generalize fewA zs n = fw at *
      generalize fewA zs (n + 1) = gw at *
      clear hs hd hnn h6
      go_wp2_with fail
      refine (HFG.out _ _ _ LZ_1.out).mono ?_; rintro e w2 ⟨rfl, hb⟩
      have B2 := hidH (bThen B1.out hb)
      have s2 := hb.size
      have LZ_2 := hidH (LZ_1.out.below hb)
      clear hb B1 LZ_1
      go_wp2_with fail
      refine (HSG.out _ _ _ LZ_2.out).mono ?_; rintro e w3 ⟨rfl, hb⟩
      have B3 := hidH (bThen B2.out hb)
      have s3 := hb.size
      have LZ_3 := hidH (LZ_2.out.below hb)
      clear hb B2 LZ_2
      go_wp2_with fail
      refine (HFH.out _ _ _ LZ_3.out).mono ?_; rintro e w4 ⟨rfl, hb⟩
      have B4 := hidH (bThen B3.out hb)
      have s4 := hb.size
      have LZ_4 := hidH (LZ_3.out.below hb)
      clear hb B3 LZ_3
      go_wp2_with fail
      go_ret
      exact ⟨rfl, B4.out⟩
end Go.Proofs.Ytmmcdmnmhpbehaa
