/-
  The walks of the exact laws of FormatSigned and ParseSigned. Conditions: a text fits in memory; the library's table of powers of ten and its two errors are as its own text lays them.
-/
import Derived.Test.YtmjahklcliocjaaDoorStrS
import Derived.Test.YtmjahklcliocjaaDoorLaid
namespace Go.Proofs.YtmjahklcliocjaaDoor
set_option maxRecDepth 4000
open Go.RowKit
theorem exFormatSigned (s : ByteArray) (w : World) (hs : s.size ≤ maxLen) (hT : PowT w) : Calls Tryd.prog 4 #[.string s] w (Gives (.bool true) w) := by
  unfold maxLen at hs
  have HS := hidH (sFormatSigned_any s hs w)
  have HI := hidH (fun W hb => formatSigned_any s hs W (hT.below hb))
  clear hT
  by_cases hbig : 1048576 < s.size
  · go_enter Tryd.func4, Tryd.ntmps4
    go_wp2
    go_ret
    exact ⟨rfl, Below.refl _ _⟩
  · generalize fsB s = r at *
    go_enter Tryd.func4, Tryd.ntmps4
    go_wp2_with fail
    refine HS.out.mono ?_; rintro e w1 ⟨rfl, hb⟩
    have HB := hidH hb
    clear hb
    go_wp2_with fail
    refine (HI.out _ HB.out).mono ?_; rintro e w2 ⟨rfl, hb⟩
    have HB2 := hidH (HB.out.trans (hb.mono HB.out.size))
    clear hb
    go_wp2
    go_ret
    exact ⟨rfl, HB2.out⟩
theorem exParseSigned (s : ByteArray) (wi : Int) (w : World) (hs : s.size ≤ maxLen) (hT : PowT w) (hE : ErrT w) : Calls Tryd.prog 5 #[.string s, .int .i64 wi] w (Gives (.bool true) w) := by
  unfold maxLen at hs
  by_cases hbig : 1048576 < s.size
  · go_enter Tryd.func5, Tryd.ntmps5
    go_wp2
    go_ret
    exact ⟨rfl, Below.refl _ _⟩
  · have hf : ∃ (c : ByteArray) (b : Bool), psA s wi = .tuple #[.string c, .bool b] := by
      unfold psA
      split
      · exact colA_form _ _
      · exact ⟨_, _, rfl⟩
    obtain ⟨c, b, hc⟩ := hf
    have HS := hidH (sParseSigned_any s hs wi w)
    have HI := hidH (fun W hb => parseSigned_any s (by omega) wi W (hT.below hb) (hE.below hb))
    rw [hc] at HS HI
    clear hT hE hc
    go_enter Tryd.func5, Tryd.ntmps5
    go_wp2_with fail
    refine HS.out.mono ?_; rintro e w1 ⟨rfl, hb⟩
    have HB := hidH hb
    clear hb
    go_wp2_with fail
    refine (HI.out _ HB.out).mono ?_; rintro e w2 ⟨rfl, hb⟩
    have HB2 := hidH (HB.out.trans (hb.mono HB.out.size))
    clear hb
    go_wp2
    go_ret
    exact ⟨rfl, HB2.out⟩
end Go.Proofs.YtmjahklcliocjaaDoor
