/-
  FewestSegments: the model, at every argument. No conditions but that slices fit in memory.
-/
import Derived.Test.YtmmcdmnmhpbehaaPlfB
namespace Go.Proofs.Ytmmcdmnmhpbehaa
set_option maxRecDepth 4000
open Go.RowKit
theorem sFewest_any (v0 : Value) (zs : List Int) (n : Int) (w : World) (lo0 hi0 : Nat) (hv0 : Lies w lo0 hi0 v0 zs) : Calls Try.prog 10 #[v0, .int .i64 n] w (Gives (.int .i64 (fewA zs n)) w) := by
  have HV := hidH hv0
  obtain ⟨a0, cap0, rfl, hlc0, hcm0, _, _⟩ := hv0
  unfold maxLen at hcm0
  unfold fewA
  cases hs : smallOk zs
  · have HS := hidH hs
    rw [Bool.false_and]
    clear hs
    go_enter Try.func10, Try.ntmps10
    go_wp2_with fail
    refine (sSmall_any _ zs _ _ _ HV.out).mono ?_; rintro e w2 ⟨rfl, hb⟩
    rw [HS.out]
    have HB := hidH hb
    clear hb
    go_wp2_with fail
    go_ret
    exact ⟨rfl, HB.out⟩
  · have HS := hidH hs
    rw [Bool.true_and]
    clear hs
    cases hd : degOk n
    · have HD := hidH hd
      clear hd
      go_enter Try.func10, Try.ntmps10
      go_wp2_with fail
      refine (sSmall_any _ zs _ _ _ HV.out).mono ?_; rintro e w2 ⟨rfl, hb⟩
      rw [HS.out]
      have HB := hidH hb
      clear hb
      go_wp2_with fail
      refine (sDeg4_any n _).mono ?_; rintro e w3 ⟨rfl, rfl⟩
      rw [HD.out]
      go_wp2_with fail
      go_ret
      exact ⟨rfl, HB.out⟩
    · have HD := hidH hd
      obtain ⟨d, rfl⟩ : ∃ d : Nat, n = (d : Int) := ⟨n.toNat, by unfold degOk at hd; have := of_decide_eq_true hd; omega⟩
      rw [Int.toNat_natCast]
      clear hd
      have HZ := hidH (show (bestZ (nxZ (d + 1) zs) zs.length)[0]? = some ((fewN (d + 1) zs : Nat) : Int) from bestZ_get _ _ 0 (Nat.zero_le _))
      have HZL := hidH (bestZ_length (nxZ (d + 1) zs) zs.length)
      have HSB := hidH (fun W h => sBest5_any (.slice a0 zs.length cap0) zs d W h HS.out HD.out)
      generalize bestZ (nxZ (d + 1) zs) zs.length = bz at *
      generalize fewN (d + 1) zs = fw at *
      go_enter Try.func10, Try.ntmps10
      go_wp2_with fail
      refine (sSmall_any _ zs _ _ _ HV.out).mono ?_; rintro e w2 ⟨rfl, hb⟩
      rw [HS.out]
      have HB := hidH hb
      have HV2 := hidH (HV.out.below hb)
      clear hb
      go_wp2_with fail
      refine (sDeg4_any (d : Int) _).mono ?_; rintro e w3 ⟨rfl, rfl⟩
      rw [HD.out]
      go_wp2_with fail
      refine (HSB.out w2 HV2.out.top).mono ?_; rintro e w4 ⟨v4, rfl, hr, hb⟩
      have HB4 := hidH (bThen HB.out hb)
      have hbz := HZL.out
      obtain ⟨b, off, cap, rfl, hlc, hcm, _, _, _, hcell⟩ := hr.lies.addr (by omega)
      unfold maxLen at hcm
      have c0 : w4.cell? ⟨b, off, none⟩ = some (.int .i64 (fw : Int)) := hcell 0 _ HZ.out
      have hp : 0 < bz.length := by omega
      clear hb hr hcell hbz
      go_wp2_with fail
      go_ret
      exact ⟨rfl, HB4.out⟩
end Go.Proofs.Ytmmcdmnmhpbehaa
