/-
  The walk of a law: a table is clean for a degree exactly if it has a polynomial of this or a lower degree. No conditions but that the bytes that came in can be read.
-/
import Derived.Test.YtgicnfioojcbpaaErrKd
import Derived.Test.YtgicnfioojcbpaaErrA
import Derived.Test.YtgicnfioojcbpaaDeFns
namespace Go.Proofs.Ytgicnfioojcbpaa
set_option maxRecDepth 4000
open Go.RowKit
theorem clean_iff (zs : List Int) (d : Int) : cleanB zs d = true ↔ 0 ≤ d ∧ d ≤ 6 ∧ -1 ≤ leastL zs ∧ leastL zs ≤ d := by
  rw [cleanB_eq]
  simp [degOk, and_assoc]
set_option maxHeartbeats 2000000 in
theorem lawClean (a : Option Addr) (len cap : Nat) (w : World) (hc : Came w a len cap) : Calls Try.prog 3 #[.slice a len cap] w (Gives (.bool true) w) := by
  have hcap := hc.lenLe
  have hcap2 := hc.capLe
  unfold maxLen at hcap2
  by_cases hbig : 1048576 < len
  · clear hc
    go_enter Try.func3, Try.ntmps3
    go_wp2
    go_ret
    exact ⟨rfl, Below.refl _ _⟩
  · have HD := hidH (drawCleanTable a len cap w hc (by omega))
    clear hc
    go_enter Try.func3, Try.ntmps3
    go_wp2_with fail
    refine HD.out.mono ?_
    rintro e w1 ⟨v, zs, d, rfl, hv, h61, hB⟩
    have V_1 := hidH hv
    have B1 := hidH hB
    have C1 := hidH (Below.refl w1.heap.size w1)
    clear hB HD hv
    go_wp2_with fail
    refine (clean_any v zs d w1 _ _ V_1.out).mono ?_; rintro e w2 ⟨rfl, hb⟩
    have B2 := hidH (B1.out.trans (hb.mono B1.out.size))
    have C2 := hidH (C1.out.trans (hb.mono C1.out.size))
    have V_2 := hidH (V_1.out.below hb)
    clear hb B1 C1 V_1
    go_wp2_with fail
    refine (sClean_any v zs d w2 _ _ V_2.out).mono ?_; rintro e w3 ⟨rfl, hb⟩
    have B3 := hidH (B2.out.trans (hb.mono B2.out.size))
    have C3 := hidH (C2.out.trans (hb.mono C2.out.size))
    have V_3 := hidH (V_2.out.below hb)
    clear hb B2 C2 V_2
    have HLS := hidH (fun w lo hi h => least_any v zs w lo hi h)
    have ⟨l1, l2, _, _⟩ := least_ge zs
    have hcl := clean_iff zs d
    generalize leastL zs = l at *
    generalize cleanB zs d = c at *
    cases c
    · have hn : ¬ (0 ≤ d ∧ d ≤ 6 ∧ -1 ≤ l ∧ l ≤ d) := fun h => by have := hcl.2 h; cases this
      clear hcl
      rcases (show l < -1 ∨ (l = -1 ∧ d < 0) ∨ (l = -1 ∧ 6 < d) ∨ (0 ≤ l ∧ d < l) ∨ (0 ≤ l ∧ l ≤ d ∧ 6 < d) by omega) with h | ⟨h, h2⟩ | ⟨h, h2⟩ | ⟨h, h2⟩ | ⟨h, h2, h3⟩
      · clear hn
        go_wp2_with fail
        refine (HLS.out w3 _ _ V_3.out).mono ?_; rintro e wz ⟨rfl, hb⟩
        have BZ := hidH (B3.out.trans (hb.mono B3.out.size))
        clear hb
        go_wp2_with fail
        go_ret
        exact ⟨rfl, BZ.out⟩
      · clear hn
        subst h
        go_wp2_with fail
        refine (HLS.out w3 _ _ V_3.out).mono ?_; rintro e wz ⟨rfl, hb⟩
        have BZ := hidH (B3.out.trans (hb.mono B3.out.size))
        clear hb
        go_wp2_with fail
        go_ret
        exact ⟨rfl, BZ.out⟩
      · clear hn
        subst h
        go_wp2_with fail
        refine (HLS.out w3 _ _ V_3.out).mono ?_; rintro e wz ⟨rfl, hb⟩
        have BZ := hidH (B3.out.trans (hb.mono B3.out.size))
        clear hb
        go_wp2_with fail
        go_ret
        exact ⟨rfl, BZ.out⟩
      · clear hn
        go_wp2_with fail
        refine (HLS.out w3 _ _ V_3.out).mono ?_; rintro e wz ⟨rfl, hb⟩
        have BZ := hidH (B3.out.trans (hb.mono B3.out.size))
        clear hb
        go_wp2_with fail
        go_ret
        exact ⟨rfl, BZ.out⟩
      · clear hn
        go_wp2_with fail
        refine (HLS.out w3 _ _ V_3.out).mono ?_; rintro e wz ⟨rfl, hb⟩
        have BZ := hidH (B3.out.trans (hb.mono B3.out.size))
        clear hb
        go_wp2_with fail
        go_ret
        exact ⟨rfl, BZ.out⟩
    · have ⟨d1, d2, l3, l4⟩ := hcl.1 rfl
      clear hcl
      by_cases h0 : l < 0
      · obtain rfl : l = -1 := by omega
        clear h0
        go_wp2_with fail
        refine (HLS.out w3 _ _ V_3.out).mono ?_; rintro e wz ⟨rfl, hb⟩
        have BZ := hidH (B3.out.trans (hb.mono B3.out.size))
        clear hb
        go_wp2_with fail
        go_ret
        exact ⟨rfl, BZ.out⟩
      · have h1 : 0 ≤ l := by omega
        have h6 : decide (l ≤ 6) = true := decide_eq_true (by omega)
        clear h0
        go_wp2_with fail
        refine (HLS.out w3 _ _ V_3.out).mono ?_; rintro e wz ⟨rfl, hb⟩
        have BZ := hidH (B3.out.trans (hb.mono B3.out.size))
        clear hb
        go_wp2_with fail
        go_ret
        exact ⟨rfl, BZ.out⟩
end Go.Proofs.Ytgicnfioojcbpaa
