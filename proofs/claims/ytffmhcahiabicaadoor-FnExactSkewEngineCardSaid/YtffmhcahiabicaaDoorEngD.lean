/-
  A turn back: the program's, in the columns' place, and the model's. Condition: columns of one width.
-/
import Derived.Test.YtffmhcahiabicaaDoorEngC
import Derived.Test.YtffmhcahiabicaaDoorEngFns
import Derived.Deep.RegionWith
namespace Go.Proofs.YtffmhcahiabicaaDoor
set_option maxRecDepth 4000
set_option linter.unusedVariables false
open Go.RowKit
theorem lies_blk {w : World} {b k0 cap : Nat} {zs : List ByteArray} (H : BlkS w b zs) (hc : zs.length - k0 ≤ cap) (hm : cap ≤ maxLen) (lo hi : Nat) (hl : lo ≤ b) (hh : b < hi) : LiesS w lo hi (.slice (some ⟨b, k0, none⟩) (zs.length - k0) cap) (zs.drop k0) :=
  lies_ofS (by rw [List.length_drop]) (by rw [List.length_drop]; exact hc) hm hl hh fun j z hj => by
    rw [List.getElem?_drop] at hj
    exact (H.2 _ _ hj).1
set_option maxHeartbeats 4000000 in
theorem turnBack_any (n b k0 cap : Nat) (zs : List ByteArray) (w : World) (hB : BlkS w b zs) (hk0 : k0 ≤ zs.length) (hl : zs.length ≤ 1048576) (hcl : zs.length - k0 ≤ cap) (hcm : cap ≤ 9223372036854775807) (hz : ∀ z ∈ zs, colN n z) :
    Calls Tryd.prog 84 #[.slice (some ⟨b, k0, none⟩) (zs.length - k0) cap] w fun e w' => e = .returned (.tuple #[]) ∧ BlkS w' b (tailBack difS k0 zs) ∧ Onto b w w' := by
  have HB0 := hidH hB
  have HZ := hidH hz
  have HSB := hidH (fun c d (hc : colN n c) (hd : colN n d) W => subS_yes c d W hc.1 hd.1 (by rw [hc.2, hd.2]))
  have HLN := hidH (fun k => tailBack_length difS k zs)
  have HAL := hidH (fun k => tailBack_all difS (colN n) (colN_dif n) k zs hz)
  have HBL := hidH (backL_all difS (colN n) (colN_dif n) zs hz)
  clear hB hz
  by_cases h0 : zs.length - k0 = 0
  · have HE := hidH (tailBack_last difS k0 zs (by omega))
    rw [h0] at *
    go_enter Tryd.func84, Tryd.ntmps84
    go_wp2
    go_loopw [2] (fun i wr => i = .int .i64 (-2) ∧ w = wr) (fun _ _ => 0)
    case atStart => exact ⟨rfl, rfl⟩
    case round =>
      obtain ⟨rfl, rfl⟩ := hrel
      go_wp2
      go_end0
      exact ⟨rfl, by rw [HE.out]; exact HB0.out, Onto.refl _ _⟩
  · obtain ⟨m, hm⟩ : ∃ m, zs.length - k0 = m + 1 := ⟨zs.length - k0 - 1, by omega⟩
    have HE := hidH (tailBack_last difS (k0 + m) zs (by omega))
    have hzl : zs.length = k0 + m + 1 := by omega
    have HZL := hidH hzl
    rw [hm] at hcl ⊢
    clear h0 hm hl hk0 hzl
    go_enter Tryd.func84, Tryd.ntmps84
    go_wp2
    go_loopw [2] (fun i wr => ∃ t : Nat, t ≤ m ∧ i = .int .i64 ((t : Int) - 1) ∧ BlkS wr b (tailBack difS (k0 + t) zs) ∧ Onto b w wr) (fun i _ => (intOf i + 1).toNat)
    case atStart => exact ⟨m, Nat.le_refl _, by go_num, by rw [HE.out]; exact HB0.out, Onto.refl _ _⟩
    case round =>
      obtain ⟨t, ht, rfl, hB, ho⟩ := hrel
      have HB := hidH hB
      have HO := hidH ho
      clear hB ho
      by_cases hlt : 0 < t
      · obtain ⟨s, rfl⟩ : ∃ s, t = s + 1 := ⟨t - 1, by omega⟩
        obtain ⟨c, hc⟩ := get_lt zs (k0 + s) (by have := HZL.out; omega)
        obtain ⟨d, hd⟩ := get_lt (backL difS zs) (k0 + s + 1) (by rw [backL_length]; have := HZL.out; omega)
        have HST := hidH (tailBack_step difS (k0 + s) zs c d hc hd)
        have c1 := HB.out.2 (k0 + s) c (by rw [show k0 + (s + 1) = (k0 + s) + 1 by omega, tailBack_low _ _ _ _ (by omega)]; exact hc)
        have c2 := HB.out.2 (k0 + s + 1) d (by rw [show k0 + (s + 1) = (k0 + s) + 1 by omega, tailBack_high _ _ _ _ (by omega)]; exact hd)
        have HCS := hidH (HSB.out c d (HZ.out c (List.mem_of_getElem? hc)) (HBL.out d (List.mem_of_getElem? hd)))
        have C1 := hidH c1
        obtain ⟨hc1, hf1⟩ := c1
        obtain ⟨hc2, hf2⟩ := c2
        rw [Nat.add_assoc] at hc2
        have hsm : s < m + 1 := by omega
        obtain ⟨j, hj⟩ : ∃ j, j = s + 1 := ⟨_, rfl⟩
        have hw : IntKind.i64.wrap ((s : Int) + 1) = (j : Int) := by rw [hj]; exact IntWalk.i64_in _ (by omega)
        have hjm : j < m + 1 := by omega
        rw [← hj] at hc2
        have HJ := hidH hj
        clear hj
        have HBW := hidH (show b < wr.heap.size from HB.out.1)
        clear hc hd
        have hi1 : ((s + 1 : Nat) : Int) - 1 = (s : Int) := by omega
        rw [hi1]
        go_wp2_with fail
        go_region_with (go_at_call 112; (with_reducible refine (HCS.out _).mono ?_); rintro e w2 ⟨rfl, hbw⟩; (have HBD := hidH (bDrew' hbw)); (have HB2 := hidH (HB.out.below HBD.out)); (have hd2 := HB2.out.2 (k0 + s)); (have hq1 : w2.cell? ⟨b, k0 + s, none⟩ = some (.string c) := by rw [HBD.out.cell (p := ⟨b, k0 + s, none⟩) HBW.out]; exact C1.out.1); (have hq2 : w2.frozen? ⟨b, k0 + s, none⟩ = false := by rw [HBD.out.frozen (p := ⟨b, k0 + s, none⟩) HBW.out]; exact C1.out.2); clear hbw hd2)
        all_goals
          go_wp2
          go_roundw
          case rel =>
            refine ⟨s, by omega, by go_num, ?_, (HO.out.trans (Onto.of_below HBD.out)).trans (Onto.setCell b (k0 + s) _ _)⟩
            rw [← HST.out]
            exact HB2.out.set (k0 + s) _
          case measure => simp [intOf] <;> omega
      · obtain rfl : t = 0 := by omega
        go_wp2
        go_end0
        exact ⟨rfl, HB.out, HO.out⟩
end Go.Proofs.YtffmhcahiabicaaDoor
