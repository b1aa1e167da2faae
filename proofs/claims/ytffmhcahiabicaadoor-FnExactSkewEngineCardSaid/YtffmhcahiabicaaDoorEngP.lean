/-
  Set up askew: the program's turns back from 2 on, from 4 on, and so on, in the columns' place. Condition: columns of one width.
-/
import Derived.Test.YtffmhcahiabicaaDoorEngE
namespace Go.Proofs.YtffmhcahiabicaaDoor
set_option maxRecDepth 4000
set_option linter.unusedVariables false
open Go.RowKit
theorem turnBackAt_any (n b k0 cap : Nat) (len : Nat) (zs : List ByteArray) (w : World) (hlen : zs.length = len) (hB : BlkS w b zs) (hk0 : k0 ≤ len) (hl : len ≤ 1048576) (hcl : len - k0 ≤ cap) (hcm : cap ≤ 9223372036854775807) (hz : ∀ z ∈ zs, colN n z) :
    Calls Tryd.prog 84 #[.slice (some ⟨b, k0, none⟩) (len - k0) cap] w fun e w' => e = .returned (.tuple #[]) ∧ BlkS w' b (tailBack difS k0 zs) ∧ Onto b w w' := by
  subst hlen
  exact turnBack_any n b k0 cap zs w hB hk0 hl hcl hcm hz
set_option maxHeartbeats 1000000 in
theorem skew_any (n b cap : Nat) (zs : List ByteArray) (w : World) (hB : BlkS w b zs) (hl : zs.length ≤ 1048576) (hcl : zs.length ≤ cap) (hcm : cap ≤ 9223372036854775807) (hz : ∀ z ∈ zs, colN n z) :
    Calls Tryd.prog 43 #[.slice (some ⟨b, 0, none⟩) zs.length cap] w fun e w' => e = .returned (.tuple #[]) ∧ BlkS w' b (askewL difS zs) ∧ Onto b w w' := by
  have HB0 := hidH hB
  have HTB := hidH (fun m k0 c W (h : BlkS W b (askewN difS zs m)) hk hc hcc => turnBackAt_any n b k0 c zs.length (askewN difS zs m) W (askewN_length difS zs m) h hk hl hc hcc (askewN_all difS (colN n) (colN_dif n) zs hz m))
  have HFU := hidH (fun m (h : zs.length ≤ 2 * m + 2) => askewN_full difS zs m h)
  have HNX := hidH (fun m => show tailBack difS (2 * m + 2) (askewN difS zs m) = askewN difS zs (m + 1) from rfl)
  have HZ0 := hidH (show askewN difS zs 0 = zs from rfl)
  clear hB hz
  go_enter Tryd.func43, Tryd.ntmps43
  go_wp2
  go_loopw [2] (fun i wr => ∃ m : Nat, 2 * m ≤ zs.length ∧ i = .int .i64 ((2 * m + 2 : Nat) : Int) ∧ BlkS wr b (askewN difS zs m) ∧ Onto b w wr) (fun i _ => zs.length + 2 - (intOf i).toNat)
  case atStart => exact ⟨0, Nat.zero_le _, rfl, by rw [HZ0.out]; exact HB0.out, Onto.refl _ _⟩
  case round =>
    obtain ⟨m, hm, rfl, hB, ho⟩ := hrel
    have HB := hidH hB
    have HO := hidH ho
    clear hB ho
    by_cases hlt : 2 * m + 2 < zs.length
    · obtain ⟨k, hk⟩ : ∃ k, k = 2 * m + 2 := ⟨_, rfl⟩
      have HC := hidH (HTB.out m k (cap - k) wr HB.out (by omega) (by omega) (by omega))
      rw [← hk] at hlt ⊢
      have HK := hidH hk
      clear hk
      go_wp2_with fail
      refine HC.out.mono ?_; rintro e w2 ⟨rfl, hB2, ho2⟩
      have HB2 := hidH hB2
      have HO2 := hidH (HO.out.trans ho2)
      clear hB2 ho2
      go_wp2
      go_roundw
      case rel => exact ⟨m + 1, by have := HK.out; omega, by have := HK.out; go_num, by rw [← HNX.out, ← HK.out]; exact HB2.out, HO2.out⟩
      case measure => simp [intOf] <;> omega
    · have HF := hidH (HFU.out m (by omega))
      go_wp2
      go_end0
      exact ⟨rfl, by rw [← HF.out]; exact HB.out, HO.out⟩
end Go.Proofs.YtffmhcahiabicaaDoor
