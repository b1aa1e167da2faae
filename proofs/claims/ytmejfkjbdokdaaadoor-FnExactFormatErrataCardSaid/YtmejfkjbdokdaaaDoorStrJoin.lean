/-
  strings.Join and strings.SplitN, by the shelf's contracts, over slices of texts. Conditions: the texts that are joined are together of at most 2 to the power of 47 bytes; a text that is cut is of less than 4294967281 bytes, and the library's own variable MaxLen holds some number.
-/
import Derived.Test.YtmejfkjbdokdaaaDoorSs
import Derived.Test.YtmejfkjbdokdaaaDoorShJoin
import Derived.Shelf.Strings.OnBuilder
namespace Go.Proofs.YtmejfkjbdokdaaaDoor
set_option maxRecDepth 4000
open Go.RowKit Go.Shelf
theorem extra156 : Go.Proofs.Builder.Extra Tryd.prog lays156_ren := {
  sizeBuilder := by kernel_rfl
  liesBuilder := by kernel_rfl
  t5 := Tryd.underlying5
  a5 := Tryd.isAgg5
  z5 := Tryd.sizeOf5
  v5 := Tryd.zeroValue5
  infoByte := by kernel_rfl
  cellsByte := by kernel_rfl
  sizeByte := by kernel_rfl
  neB5 := by decide }
/-- Texts with a separator between. -/
def joinB (xs : List ByteArray) (sep : ByteArray) : ByteArray := ⟨(Lib.join (xs.map (·.data.toList)) sep.data.toList).toArray⟩
theorem join_any (xs : List ByteArray) (sep : ByteArray) (v : Value) (w : World) (lo hi : Nat) (hv : LiesS w lo hi v xs) (hlen : (Lib.join (xs.map (·.data.toList)) sep.data.toList).length ≤ 140737488355328) (hn : xs.length ≤ 1048576) : Calls Tryd.prog 23 #[v, .string sep] w (Gives (.string (joinB xs sep)) w) := by
  by_cases h0 : xs.length = 0
  · obtain ⟨a, cap, rfl, _⟩ := hv
    obtain rfl : xs = [] := List.eq_nil_of_length_eq_zero h0
    have h := Any.strings_Join_none lays156 extra156 a cap sep w
    change Calls Tryd.prog 23 _ _ _ at h
    exact h.mono fun e w' ⟨he, hw⟩ => ⟨he, hw ▸ Below.refl _ _⟩
  · obtain ⟨b, off, cap, rfl, hc, hm, _, _, hb, hcell⟩ := hv.addr (by omega)
    have h := Any.strings_Join lays156 extra156 b off cap xs sep w hcell hb (by omega) hc hlen
    change Calls Tryd.prog 23 _ _ _ at h
    exact h
end Go.Proofs.YtmejfkjbdokdaaaDoor
