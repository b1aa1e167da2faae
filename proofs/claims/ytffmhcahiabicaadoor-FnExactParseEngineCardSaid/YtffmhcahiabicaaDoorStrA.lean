/-
  The model's own decimal texts: what is written is the text that the library writes. Condition: an int.
-/
import Derived.Test.YtffmhcahiabicaaDoorStrMath
import Derived.Test.YtffmhcahiabicaaDoorBase
import Derived.Deep.RegionWith
namespace Go.Proofs.YtffmhcahiabicaaDoor
set_option maxRecDepth 4000
open Go.RowKit
theorem bytes_append (a b : Array UInt8) : ((⟨a⟩ : ByteArray) ++ (⟨b⟩ : ByteArray)) = ⟨a ++ b⟩ := ByteArray.ext (by rw [ByteArray.data_append])
theorem dec_small (u : Nat) (h : u < 10) : Lib.decDigits u = [UInt8.ofNat (48 + u)] := by rw [Lib.decDigits, dif_pos h]
theorem dec_big (u : Nat) (h : ¬ u < 10) : Lib.decDigits u = Lib.decDigits (u / 10) ++ [UInt8.ofNat (48 + u % 10)] := by rw [Lib.decDigits, dif_neg h]
/-- 'string([]byte{byte('0' + d)})'. -/
theorem conv_dig (w : World) (d : Nat) (h : d < 10) (x : Int) (hx : x = 48 + (d : Int)) : (convert 36 9 (.slice (some ⟨w.heap.size, 0, none⟩) 1 1)).run Tryd.prog (w.alloc (.cells #[.int .u8 x] 5)) = .ok (.string ⟨#[UInt8.ofNat (48 + d)]⟩) (w.alloc (.cells #[.int .u8 x] 5)) := by
  subst hx
  refine run_convert_bytes_back (P := Tryd.prog) _ 36 9 5 ⟨w.heap.size, 0, none⟩ 1 [UInt8.ofNat (48 + d)] Tryd.underlying36 Tryd.underlying5 Tryd.underlying9 ?_
  intro j hj
  obtain rfl : j = 0 := by simpa using hj
  rw [show (⟨w.heap.size, 0, none⟩ : Addr).add 0 = ⟨w.heap.size, 0, none⟩ from rfl, World.cell?_alloc_at _ _ _ _ rfl]
  simp only [List.getElem_cons_zero, ofNat_dig d h]
  simp
theorem conv_byte (w : World) (d : Nat) (h : d < 10) (x : Int) (hx : x = 48 + (d : Int)) : ∃ c : UInt8, Hid (c = UInt8.ofNat (48 + d)) ∧ (convert 36 9 (.slice (some ⟨w.heap.size, 0, none⟩) 1 1)).run Tryd.prog (w.alloc (.cells #[.int .u8 x] 5)) = .ok (.string ⟨#[c]⟩) (w.alloc (.cells #[.int .u8 x] 5)) := ⟨_, hidH rfl, conv_dig w d h x hx⟩
theorem dec_len (n : Nat) (h1 : n ≤ 9223372036854775807) : (Lib.decDigits n).length ≤ 21 := by
  have := Lib.itoa_length_le n (by omega) (by omega)
  rwa [Lib.itoa_nonneg] at this
end Go.Proofs.YtffmhcahiabicaaDoor
