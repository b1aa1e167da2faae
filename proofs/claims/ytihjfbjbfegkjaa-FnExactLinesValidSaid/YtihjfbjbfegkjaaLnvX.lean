/-
  The walk of the exact law of LinesValid. Condition: texts that fit in memory.
-/
import Derived.Test.YtihjfbjbfegkjaaLnvB
namespace Go.Proofs.Ytihjfbjbfegkjaa
set_option maxRecDepth 4000
open Go.RowKit
set_option maxHeartbeats 1600000 in
theorem exLinesValid (v0 : Value) (cs0 : List ByteArray) (w : World) (hv0 : LiesS w 0 w.heap.size v0 cs0) (hm0 : ∀ c ∈ cs0, c.size ≤ 9223372036854775807) : Calls Try.prog 3 #[v0] w (Gives (.bool true) w) := by
  have HV0 := hidH hv0
  have HM0 := hidH hm0
  obtain ⟨a0, cap0, rfl⟩ := hv0.some
  clear hv0 hm0
  go_enter Try.func3, Try.ntmps3
  go_wp2_with fail
  refine (szTexts_any _ cs0 1048576 _ _ _ HV0.out HM0.out (by omega)).mono ?_; rintro e w1 ⟨r, rfl, hr, hb⟩
  have B_1 := hidH hb
  clear hb
  rcases hr with rfl | ⟨⟨m, rfl, _⟩, hn0, hz0⟩
  · go_wp2
    go_ret
    exact ⟨rfl, B_1.out⟩
  · have HT := hidH (fun W (hb : Below w.heap.size w W) => toTexts_any (.slice a0 cs0.length cap0) cs0 W ((HV0.out.below hb).mono (Nat.le_refl _) hb.size) hn0)
    clear hz0
    have HSP := hidH (fun W t lo hi (h : LiesS W lo hi t cs0) => sLinesValid_any t cs0 W lo hi h HM0.out)
    have HIM := hidH (fun W t lo hi (h : LiesS W lo hi t cs0) => linesValid_any t cs0 W lo hi h HM0.out)
    generalize linesOk cs0 = ra at HSP HIM
    go_wp2_with fail
    refine (HT.out _ B_1.out).mono ?_; rintro e w2 ⟨t, rfl, hr, hb⟩
    have B_2 := hidH (bThen B_1.out hb)
    have T_2 := hidH hr
    clear hb hr B_1
    go_wp2_with fail
    refine (HSP.out _ _ _ _ T_2.out.lies).mono ?_; rintro e w3 ⟨rfl, hb⟩
    have B_3 := hidH (bThen B_2.out hb)
    clear hb B_2 T_2
    go_wp2_with fail
    refine (HT.out _ B_3.out).mono ?_; rintro e w4 ⟨x0, rfl, hr, hb⟩
    have B_4 := hidH (bThen B_3.out hb)
    have X_4 := hidH hr
    clear hb hr B_3
    go_wp2_with fail
    refine (HIM.out _ _ _ _ X_4.out.lies).mono ?_; rintro e w5 ⟨rfl, hb⟩
    have B_5 := hidH (bThen B_4.out hb)
    have X_5 := hidH (X_4.out.below hb)
    clear hb B_4 X_4
    go_wp2_with fail
    refine (HT.out _ B_5.out).mono ?_; rintro e w6 ⟨y0, rfl, hr, hb⟩
    have B_6 := hidH (bThen B_5.out hb)
    have X_6 := hidH (X_5.out.below hb)
    have Y_6 := hidH hr
    clear hb hr B_5 X_5
    go_wp2_with fail
    refine (eqTexts_yes _ _ cs0 _ _ _ _ _ X_6.out.lies Y_6.out.lies).mono ?_; rintro e w7 ⟨rfl, hb⟩
    have B_7 := hidH (bThen B_6.out hb)
    clear hb B_6
    go_wp2
    go_ret
    exact ⟨rfl, B_7.out⟩
end Go.Proofs.Ytihjfbjbfegkjaa
