/-
  FormatPoly of the program and of the model: the numbers in decimal, with a space between. Conditions: the library's table of powers of ten is as its own text lays it.
-/
import Derived.Test.YtmejfkjbdokdaaaDoorStrJoin
import Derived.Test.YtmejfkjbdokdaaaDoorStrNum
import Derived.Test.YtmejfkjbdokdaaaDoorStrMath
import Derived.Test.YtmejfkjbdokdaaaDoorPolyV
namespace Go.Proofs.YtmejfkjbdokdaaaDoor
set_option maxRecDepth 4000
open Go.RowKit
/-- Numbers in decimal, with a space between. -/
def textL (zs : List Int) : List UInt8 := Lib.join (zs.map Lib.itoa) [32]
theorem textL_nil : textL [] = [] := rfl
theorem join_snoc (y sep : List UInt8) : ∀ xs : List (List UInt8), xs ≠ [] → Lib.join (xs ++ [y]) sep = Lib.join xs sep ++ sep ++ y
  | [], h => absurd rfl h
  | x :: r, _ => by
    rw [List.cons_append, Lib.join_cons, Lib.join_cons]
    simp [Lib.joinTail]
theorem textL_snoc (zs : List Int) (x : Int) (h : zs ≠ []) : textL (zs ++ [x]) = textL zs ++ [32] ++ Lib.itoa x := by
  unfold textL
  rw [List.map_append]
  exact join_snoc _ _ _ (by simpa using h)
theorem textL_one (x : Int) : textL [x] = Lib.itoa x := Lib.join_one _ _
theorem textL_len (zs : List Int) (h : ∀ x ∈ zs, -9223372036854775807 ≤ x ∧ x ≤ 9223372036854775807) : (textL zs).length ≤ 22 * zs.length := by
  have key : ∀ ys : List Int, (∀ x ∈ ys, -9223372036854775807 ≤ x ∧ x ≤ 9223372036854775807) → Lib.lens (ys.map Lib.itoa) ≤ 21 * ys.length := by
    intro ys
    induction ys with
    | nil => intro _; exact Nat.le_refl _
    | cons y ys ih =>
      intro hy
      have h1 := ih (fun x hx => hy x (List.mem_cons_of_mem _ hx))
      have h2 := hy y List.mem_cons_self
      have h3 := Lib.itoa_length_le y (by omega) (by omega)
      simp only [List.map_cons, Lib.lens, List.sum_cons, List.length_cons] at h1 ⊢
      omega
  cases zs with
  | nil => exact Nat.le_refl _
  | cons z zs =>
    unfold textL
    have hk := key _ h
    rw [List.map_cons, Lib.join_length, ← List.map_cons]
    simp only [List.length_map, List.length_cons, List.length_nil] at hk ⊢
    omega
theorem textL_take (zs : List Int) (k : Nat) (x : Int) (hx : zs[k]? = some x) : textL (zs.take (k + 1)) = textL (zs.take k) ++ (if 0 < k then [32] else []) ++ Lib.itoa x := by
  have hk := (List.getElem?_eq_some_iff.1 hx).1
  have e : zs.take (k + 1) = zs.take k ++ [x] := by rw [List.take_add_one, hx]; rfl
  rw [e]
  by_cases h0 : 0 < k
  · rw [if_pos h0]
    refine textL_snoc _ _ (fun h => ?_)
    have := congrArg List.length h
    rw [List.length_take, List.length_nil] at this
    omega
  · obtain rfl : k = 0 := by omega
    simp [textL_one, textL_nil]
/-- The text of a polynomial. -/
def fpB (zs : List Int) : ByteArray := if polyOk zs then ⟨(textL zs).toArray⟩ else ⟨#[]⟩
theorem infoStr : (Tryd.prog.info? 9).map (fun i => (i.zero, i.size, i.bytes)) = some (some (.string ⟨#[]⟩), 1, 16) := by kernel_rfl
theorem join_decsL (zs : List Int) : Lib.join ((zs.map decB).map (·.data.toList)) [32] = textL zs := by
  unfold textL
  rw [List.map_map]
  congr 1
theorem join_decs (zs : List Int) : joinB (zs.map decB) ⟨#[32]⟩ = ⟨(textL zs).toArray⟩ := by
  unfold joinB textL
  rw [List.map_map]
  congr 3
end Go.Proofs.YtmejfkjbdokdaaaDoor
