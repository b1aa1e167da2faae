/-
  The model's own decimal texts: what is written is the text that the library writes. Condition: an int.
-/
import Derived.Test.YtoahialihfijjaaDoorStrMath
import Derived.Test.YtoahialihfijjaaDoorBase
import Derived.Deep.RegionWith
namespace Go.Proofs.YtoahialihfijjaaDoor
set_option maxRecDepth 4000
open Go.RowKit
theorem bytes_append (a b : Array UInt8) : ((⟨a⟩ : ByteArray) ++ (⟨b⟩ : ByteArray)) = ⟨a ++ b⟩ := ByteArray.ext (by rw [ByteArray.data_append])
theorem dec_small (u : Nat) (h : u < 10) : Lib.decDigits u = [UInt8.ofNat (48 + u)] := by rw [Lib.decDigits, dif_pos h]
theorem dec_big (u : Nat) (h : ¬ u < 10) : Lib.decDigits u = Lib.decDigits (u / 10) ++ [UInt8.ofNat (48 + u % 10)] := by rw [Lib.decDigits, dif_neg h]
/-- 'string([]byte{byte('0' + d)})'. -/
theorem conv_dig (w : World) (d : Nat) (h : d < 10) (x : Int) (hx : x = 48 + (d : Int)) : (convert 22 9 (.slice (some ⟨w.heap.size, 0, none⟩) 1 1)).run Tryd.prog (w.alloc (.cells #[.int .u8 x] 5)) = .ok (.string ⟨#[UInt8.ofNat (48 + d)]⟩) (w.alloc (.cells #[.int .u8 x] 5)) := by
  subst hx
  refine run_convert_bytes_back (P := Tryd.prog) _ 22 9 5 ⟨w.heap.size, 0, none⟩ 1 [UInt8.ofNat (48 + d)] Tryd.underlying22 Tryd.underlying5 Tryd.underlying9 ?_
  intro j hj
  obtain rfl : j = 0 := by simpa using hj
  rw [show (⟨w.heap.size, 0, none⟩ : Addr).add 0 = ⟨w.heap.size, 0, none⟩ from rfl, World.cell?_alloc_at _ _ _ _ rfl]
  simp only [List.getElem_cons_zero, ofNat_dig d h]
  simp
theorem conv_byte (w : World) (d : Nat) (h : d < 10) (x : Int) (hx : x = 48 + (d : Int)) : ∃ c : UInt8, Hid (c = UInt8.ofNat (48 + d)) ∧ (convert 22 9 (.slice (some ⟨w.heap.size, 0, none⟩) 1 1)).run Tryd.prog (w.alloc (.cells #[.int .u8 x] 5)) = .ok (.string ⟨#[c]⟩) (w.alloc (.cells #[.int .u8 x] 5)) := ⟨_, hidH rfl, conv_dig w d h x hx⟩
theorem dec_len (n : Nat) (h1 : n ≤ 9223372036854775807) : (Lib.decDigits n).length ≤ 21 := by
  have := Lib.itoa_length_le n (by omega) (by omega)
  rwa [Lib.itoa_nonneg] at this
set_option maxRecDepth 4000 in
set_option maxHeartbeats 1000000 in
theorem l9DecN_any (n : Nat) (h1 : n ≤ 9223372036854775807) (w : World) : Calls Tryd.prog 38 #[.int .i64 n] w (Gives (.string ⟨(Lib.decDigits n).toArray⟩) w) := by
  have HL := hidH (dec_len n h1)
  go_enter Tryd.func38, Tryd.ntmps38
  go_wp2
  go_loopw [0, 3] (fun m o wr => ∃ (k : Nat) (l : List UInt8), m = .int .i64 k ∧ o = .string ⟨l.toArray⟩ ∧ Lib.decDigits n = Lib.decDigits k ++ l ∧ k ≤ n ∧ Below w.heap.size w wr) (fun m _ _ => (intOf m).toNat)
  case atStart => exact ⟨n, [], rfl, rfl, by simp, Nat.le_refl _, Below.refl _ _⟩
  case round =>
    obtain ⟨k, l, rfl, rfl, hd, hkn, hb⟩ := hrel
    have hl : l.length ≤ 21 := by
      have h := HL.out
      rw [hd, List.length_append] at h
      omega
    have HD := hidH hd
    have HB := hidH hb
    have HK := hidH hkn
    clear hd hb
    by_cases hk : 9 < k
    · obtain ⟨c, hc, hcv⟩ := conv_byte wr (k % 10) (Nat.mod_lt _ (by decide)) (48 + (k : Int) % 10) (by omega)
      go_wp2
      go_roundw
      case rel =>
        refine ⟨k / 10, c :: l, by go_num, by rw [bytes_append]; simp, ?_, by omega, HB.out.alloc HB.out.size _⟩
        rw [HD.out, dec_big k (by omega), hc.out]
        simp
      case measure => simp [intOf]; omega
    · obtain ⟨c, hc, hcv⟩ := conv_byte wr k (by omega) (48 + (k : Int)) rfl
      go_wp2
      go_ret
      refine ⟨?_, HB.out.alloc HB.out.size _⟩
      rw [HD.out, dec_small k (by omega), hc.out, bytes_append]
      simp
theorem l9Dec_any (n : Int) (h0 : -9223372036854775807 ≤ n) (h1 : n ≤ 9223372036854775807) (w : World) : Calls Tryd.prog 38 #[.int .i64 n] w (Gives (.string ⟨(Lib.itoa n).toArray⟩) w) := by
  by_cases hn : n < 0
  · have hl := dec_len n.natAbs (by omega)
    have HC := hidH (l9DecN_any n.natAbs (by omega) w)
    have e : ((n.natAbs : Nat) : Int) = -n := by omega
    rw [e] at HC
    have HX := hidH (show Lib.itoa n = 45 :: Lib.decDigits n.natAbs by unfold Lib.itoa; rw [if_pos hn])
    clear e
    generalize Lib.decDigits n.natAbs = l at *
    go_enter Tryd.func38, Tryd.ntmps38
    go_wp2_with (refine HC.out.mono ?_; rintro e w1 ⟨rfl, hb⟩; (have HB := hidH hb); clear hb)
    go_ret
    refine ⟨?_, HB.out⟩
    rw [HX.out, bytes_append]
    simp
  · have HC := l9DecN_any n.toNat (by omega) w
    have e : ((n.toNat : Nat) : Int) = n := by omega
    rw [e] at HC
    have hx : Lib.itoa n = Lib.decDigits n.toNat := by unfold Lib.itoa; rw [if_neg hn]
    rw [hx]
    exact HC
end Go.Proofs.YtoahialihfijjaaDoor
