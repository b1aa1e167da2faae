/-
  The mathematics of slips: the first entry that is wrong, the columns that explain it, and which entries have wrong remainders. No conditions but bounds of numbers.
-/
import Derived.Test.YtgnoclnenhmakaaErrB
import Derived.Test.YtgnoclnenhmakaaErrF
namespace Go.Proofs.Ytgnoclnenhmakaa
set_option maxRecDepth 4000
open Go.RowKit
/-- The place of the first number that is not 0; the length if there is none. -/
def fnz : List Int → Nat
  | [] => 0
  | x :: l => if x = 0 then fnz l + 1 else 0
theorem fnz_le (l : List Int) : fnz l ≤ l.length := by
  induction l with
  | nil => exact Nat.le_refl _
  | cons x l ih => rw [fnz]; split <;> simp <;> omega
theorem fnz_low (l : List Int) : ∀ (j : Nat) z, j < fnz l → l[j]? = some z → z = 0 := by
  induction l with
  | nil => intro j z h; simp [fnz] at h
  | cons x l ih =>
    intro j z h hz
    rw [fnz] at h
    split at h
    · rename_i hx
      cases j with
      | zero => simp at hz; omega
      | succ j => exact ih j z (by omega) (by simpa using hz)
    · omega
theorem fnz_eq (l : List Int) (k : Nat) (hk : k ≤ l.length) (h : ∀ (j : Nat) z, j < k → l[j]? = some z → z = 0) (h2 : ∀ z, l[k]? = some z → z ≠ 0) : fnz l = k := by
  induction l generalizing k with
  | nil => simp at hk; rw [hk]; rfl
  | cons x l ih =>
    rw [fnz]
    cases k with
    | zero =>
      have := h2 x rfl
      rw [if_neg this]
    | succ k =>
      have hx := h 0 x (by omega) rfl
      rw [if_pos hx]
      have := ih k (by simpa using hk) (fun j z hj hz => h (j + 1) z (by omega) (by simpa using hz)) (fun z hz => h2 z (by simpa using hz))
      omega
/-- What a search for the first number that is not 0 answers. -/
def nzI (l : List Int) : Int := if fnz l < l.length then (fnz l : Int) else -1
/-- The differences of two tables, entry by entry. -/
def wrongL (zs ys : List Int) : List Int := (List.range zs.length).map fun k => ys.getD k 0 - zs.getD k 0
theorem wrongL_length (zs ys : List Int) : (wrongL zs ys).length = zs.length := by simp [wrongL]
theorem wrongL_get (zs ys : List Int) (k : Nat) (z y : Int) (hz : zs[k]? = some z) (hy : ys[k]? = some y) : (wrongL zs ys)[k]? = some (y - z) := by
  have hk := (List.getElem?_eq_some_iff.1 hz).1
  rw [wrongL, List.getElem?_map, List.getElem?_range hk, Option.map_some, getD_of hy, getD_of hz]
theorem wrongL_getD (zs ys : List Int) (k : Nat) (z y : Int) (hz : zs[k]? = some z) (hy : ys[k]? = some y) : (wrongL zs ys).getD k 0 = y - z := by
  rw [List.getD_eq_getElem?_getD, wrongL_get zs ys k z y hz hy]; rfl
/-- Two tables of the same length. -/
def tabsOk (zs ys : List Int) : Bool := tableOk zs && (tableOk ys && decide (zs.length = ys.length))
/-- A slip of a column explains all differences, of which the one with the index f is the first that is not 0. -/
def sameC (D : List Int) (f c : Nat) : Bool := decide (∀ n, n < D.length → D.getD n 0 = effN c (f - c) (D.getD f 0) n)
theorem eff_before (c f : Nat) (hc : c ≤ f) (a : Int) (n : Nat) (hn : n < f) : effN c (f - c) a n = 0 := by
  unfold effN
  split
  · rfl
  · rw [chN_low (n - (f - c)) c (by omega), Int.mul_zero]
theorem sameC_from (D : List Int) (c : Nat) (hc : c ≤ fnz D) : sameC D (fnz D) c = true ↔ ∀ n, fnz D ≤ n → n < D.length → D.getD n 0 = effN c (fnz D - c) (D.getD (fnz D) 0) n := by
  unfold sameC
  rw [decide_eq_true_eq]
  constructor
  · intro h n _ hn; exact h n hn
  · intro h n hn
    by_cases hf : fnz D ≤ n
    · exact h n hf hn
    · rw [eff_before c _ hc _ n (by omega)]
      obtain ⟨z, hz⟩ := get_lt D n hn
      have := fnz_low D n z (by omega) hz
      rw [List.getD_eq_getElem?_getD, hz]; exact this
/-- The least column from c on, of m, that explains all differences. -/
def seekC (D : List Int) (f : Nat) : Nat → Nat → Option Nat
  | 0, _ => none
  | m + 1, c => if sameC D f c then some c else seekC D f m (c + 1)
def diagO (zs ys : List Int) : Option Nat :=
  if tabsOk zs ys && (decide (fnz (wrongL zs ys) < zs.length) && inB 100000 ((wrongL zs ys).getD (fnz (wrongL zs ys)) 0)) then seekC (wrongL zs ys) (fnz (wrongL zs ys)) (min (fnz (wrongL zs ys)) 6 + 1) 0 else none
/-- What DiagnoseSlip answers: the column, the turn, the amount and whether there is one. -/
def diagC (zs ys : List Int) : Int := match diagO zs ys with | some c => (c : Int) | none => 0
def diagT (zs ys : List Int) : Int := match diagO zs ys with | some c => (fnz (wrongL zs ys) : Int) - c | none => 0
def diagM (zs ys : List Int) : Int := match diagO zs ys with | some _ => (wrongL zs ys).getD (fnz (wrongL zs ys)) 0 | none => 0
def diagB (zs ys : List Int) : Bool := (diagO zs ys).isSome
/-- A call that answers three numbers and a truth. -/
def Gives4 (a b c : Int) (t : Bool) (w : World) (e : Ending) (w' : World) : Prop := e = .returned (.tuple #[.int .i64 a, .int .i64 b, .int .i64 c, .bool t]) ∧ Below w.heap.size w w'
theorem diag_none {zs ys : List Int} (h : diagO zs ys = none) : diagC zs ys = 0 ∧ diagT zs ys = 0 ∧ diagM zs ys = 0 ∧ diagB zs ys = false := by
  unfold diagC diagT diagM diagB
  rw [h]; exact ⟨rfl, rfl, rfl, rfl⟩
theorem diag_some {zs ys : List Int} {c : Nat} (h : diagO zs ys = some c) : diagC zs ys = c ∧ diagT zs ys = (fnz (wrongL zs ys) : Int) - c ∧ diagM zs ys = (wrongL zs ys).getD (fnz (wrongL zs ys)) 0 ∧ diagB zs ys = true := by
  unfold diagC diagT diagM diagB
  rw [h]; exact ⟨rfl, rfl, rfl, rfl⟩
/-! ### Wrong remainders -/
/-- The first k places in which two lists differ. -/
def diffTo (R ns : List Int) : Nat → List Int
  | 0 => []
  | k + 1 => if R.getD k 0 = ns.getD k 0 then diffTo R ns k else diffTo R ns k ++ [(k : Int)]
theorem diffTo_le (R ns : List Int) (k : Nat) : (diffTo R ns k).length ≤ k := by
  induction k with
  | zero => exact Nat.le_refl _
  | succ k ih =>
    rw [diffTo]
    split
    · omega
    · simp; omega
def wrongA (zs ns : List Int) : List Int := if (restA 9 zs).length = ns.length then diffTo (restA 9 zs) ns ns.length else []
theorem wrongA_len (zs ns : List Int) : (wrongA zs ns).length ≤ 1048576 := by
  unfold wrongA
  split
  · rename_i h
    have h1 := restA_len 9 zs
    have := diffTo_le (restA 9 zs) ns ns.length
    omega
  · simp
end Go.Proofs.Ytgnoclnenhmakaa
