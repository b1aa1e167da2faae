/-
  strconv.Itoa and strconv.Atoi, by the shelf's contracts: every int is written as its decimal text; a text is read as its number, or ends in an error that is not nil. Conditions: the library's table of powers of ten and its two errors are as its own text lays them; texts of at most 2 to the power of 48 bytes.
-/
import Derived.Test.YtmejfkjbdokdaaaDoorBase
import Derived.Test.YtmejfkjbdokdaaaDoorShNum
import Derived.Test.YtmejfkjbdokdaaaDoorStrMath
import Derived.Shelf.Strconv.Itoa3
import Derived.Shelf.Strconv.ErrVarAll
import Derived.Shelf.GgClosure.Gives
import Derived.Lib.AtoiErrMem
import Derived.WalkSmall
namespace Go.Proofs.YtmejfkjbdokdaaaDoor
set_option maxRecDepth 4000
open Go.RowKit Go.Shelf
theorem var_kept {P : Program} {W W' : World} {n : String} {cs : Array Value} (hb : Below W.heap.size W W') (hv : W.var? P n = some cs) : W'.var? P n = some cs := by
  have hv0 := hv
  unfold World.var? at hv
  cases hg : P.globalNamed n with
  | none => rw [hg] at hv; cases hv
  | some g =>
    refine var?_below hb hg ?_ hv0
    rw [hg] at hv
    simp only [Option.bind_some] at hv
    rcases Nat.lt_or_ge g W.heap.size with h | h
    · exact h
    · rw [Array.getElem?_eq_none h] at hv; cases hv
/-- The table of powers of ten is as the library's text lays it. -/
def PowT (w : World) : Prop := Lib.TabIs Tryd.prog w "internal/strconv.uint64pow10" .u64 Lib.pow10Tab
theorem PowT.below {w w' : World} (h : PowT w) (hb : Below w.heap.size w w') : PowT w' := var_kept hb h
/-- The two errors hold values. -/
def ErrT (w : World) : Prop := (∃ tp p, w.var? Tryd.prog "strconv.ErrSyntax" = some #[.iface tp p]) ∧ ∃ tp p, w.var? Tryd.prog "strconv.ErrRange" = some #[.iface tp p]
theorem ErrT.below {w w' : World} (h : ErrT w) (hb : Below w.heap.size w w') : ErrT w' := by
  obtain ⟨⟨a, b, h1⟩, c, d, h2⟩ := h
  exact ⟨⟨a, b, var_kept hb h1⟩, c, d, var_kept hb h2⟩
/-- The decimal text of a number. -/
def decB (n : Int) : ByteArray := ⟨(Lib.itoa n).toArray⟩
theorem itoa_any (n : Int) (h0 : -9223372036854775808 ≤ n) (h1 : n ≤ 9223372036854775807) (w : World) (hT : PowT w) : Calls Tryd.prog 37 #[.int .i64 n] w (Gives (.string (decB n)) w) := by
  have h := Any.strconv_Itoa lays171 n h0 h1 w hT
  change Calls Tryd.prog 37 _ _ _ at h
  refine h.mono ?_
  rintro e w' ⟨he, k, os, rfl⟩
  exact ⟨he, ⟨rfl, rfl, rfl, by simp [Sort.grow], fun k hk => by simp [Sort.grow, World.drewN, Array.getElem?_append_left hk]⟩⟩
theorem atoi_yes (s : ByteArray) (hs : s.size ≤ 281474976710656) (v : Int) (h : Lib.atoiAll s.data.toList = .ok v) (w : World) : Calls Tryd.prog 45 #[.string s] w (Gives (.tuple #[.int .i64 v, .nilIface]) w) := by
  have h := Any.strconv_Atoi_ok lays172 s (by omega) v h w
  change Calls Tryd.prog 45 _ _ _ at h
  refine h.mono ?_
  rintro e w' ⟨he, hw⟩
  rcases hw with rfl | ⟨t, rfl⟩
  · exact ⟨he, Below.refl _ _⟩
  · exact ⟨he, Lib.bytesWorld_below _ _ _⟩
theorem atoi_no (s : ByteArray) (hs : s.size ≤ 281474976710656) (h : ∀ v, Lib.atoiAll s.data.toList ≠ .ok v) (w : World) (hE : ErrT w) : Calls Tryd.prog 45 #[.string s] w fun e w' => ∃ x T p, e = .returned (.tuple #[.int .i64 x, .iface T (.pointer (some p))]) ∧ Below w.heap.size w w' := by
  obtain ⟨⟨t1, p1, h1⟩, t2, p2, h2⟩ := hE
  cases hk : Lib.atoiAll s.data.toList with
  | ok v => exact absurd hk (h v)
  | «syntax» =>
    have hc := Any.strconv_Atoi_syntax_var lays172 s hs hk t1 p1 w h1
    change Calls Tryd.prog 45 _ _ _ at hc
    exact hc.mono fun e w' ⟨N, he, _, _, hb⟩ => ⟨_, _, _, he, hb⟩
  | range =>
    have hc := Any.strconv_Atoi_range_var lays172 s hs hk t2 p2 w h2
    change Calls Tryd.prog 45 _ _ _ at hc
    exact hc.mono fun e w' ⟨N, he, _, _, hb⟩ => ⟨_, _, _, he, hb⟩
end Go.Proofs.YtmejfkjbdokdaaaDoor
