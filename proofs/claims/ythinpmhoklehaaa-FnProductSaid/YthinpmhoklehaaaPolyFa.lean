/-
  Differences of a list and its first differences: the model. Condition: slices of at most 1048576 numbers.
  Values of a polynomial one after the other and its differences at an argument: the program. Condition: valid polynomials and arguments between -300 and 300.
  ShiftPoly, StepPoly and TurnPoly: the program and the model, at every argument. No conditions but that slices fit in memory.
-/
import Derived.Test.YthinpmhoklehaaaPolyI
import Derived.Test.YthinpmhoklehaaaSl
import Derived.Laws.AppendOwn
import Derived.StillTactics
import Derived.OwnWalk
import Derived.Laws.Pointers
import Derived.Deep.RegionHeld3
import Derived.Deep.AppendLies
namespace Go.Proofs.Ythinpmhoklehaaa
set_option maxRecDepth 4000
open Go.RowKit
theorem wrap_64 (x : Int) : IntKind.i64.wrap x = wrap64 x := by rw [IntKind.wrap_i64]; unfold wrap64; omega
theorem ints_snoc (L : List Int) (k : Nat) (x : Int) (h : L[k]? = some x) : ints (L.take k) ++ [Value.int .i64 x] = ints (L.take (k + 1)) := by
  rw [List.take_add_one, h, ints_append]; rfl
/-- Values at arguments that go on by steps. -/
def valsS (p : List Int) (f s : Int) (n : Nat) : List Int := (List.range n).map fun (i : Nat) => evP p (f + s * i)
theorem valsS_length (p : List Int) (f s : Int) (n : Nat) : (valsS p f s n).length = n := by simp [valsS]
theorem valsS_get (p : List Int) (f s : Int) (n i : Nat) (h : i < n) : (valsS p f s n)[i]? = some (evP p (f + s * i)) := by simp [valsS, h]
theorem valsS_one (p : List Int) (n : Int) (m : Nat) : valsS p n 1 m = vals p n m := by
  unfold valsS vals
  exact List.map_congr_left fun i _ => by rw [Int.one_mul]
theorem sValues_any (v : Value) (zs : List Int) (f s : Int) (n : Nat) (w : World) (lo hi : Nat) (hv : Lies w lo hi v zs) (hs : Small zs) (hn : n ≤ 1048576) (hf : -200 ≤ f ∧ f ≤ 200) (hb : ∀ i : Nat, i < n → -300 ≤ f + s * i ∧ f + s * i ≤ 300) : Calls Try.prog 47 #[v, .int .i64 f, .int .i64 s, .int .i64 n] w (NewRow (valsS zs f s n) w) := by
  obtain ⟨i0, hi0, hz0, hz1, hz2⟩ := info_parts infoInt
  have HV := hidH hv
  have HS := hidH hs
  have HBD := hidH hb
  have HO := hidH (World.ownsRow_made (base := w.heap.size) (e := 3) (size := 1) w #[] 0 (Nat.le_refl _) (Nat.zero_le _) rfl)
  clear hv hs hb
  go_enter Try.func47, Try.ntmps47
  go_wp2_with fail
  go_loopw [9, 10] (fun o i wr => ∃ (k : Nat) (ov : Value), k ≤ n ∧ i = .int .i64 k ∧ ov = o ∧ wr.ownsRow w.heap.size 3 1 ov k (ints ((valsS zs f s n).take k)) ∧ Below w.heap.size w wr) (fun _ i _ => n - (intOf i).toNat)
  case atStart => exact ⟨0, _, Nat.zero_le _, rfl, rfl, HO.out, (Below.refl _ _).alloc (Nat.le_refl _) _⟩
  case round =>
    obtain ⟨k, ov, hk, rfl, rfl, hown, hb⟩ := hrel
    have HW := hidH hown
    have HB := hidH hb
    clear hown hb
    have hsz := HB.out.size
    by_cases hlt : k < n
    · have ⟨b1, b2⟩ := HBD.out k hlt
      have b3 : -500 ≤ s * (k : Int) ∧ s * (k : Int) ≤ 500 := by omega
      have HX := hidH (ints_snoc _ k _ (valsS_get zs f s n k hlt))
      go_wp2_with fail
      refine (sEvalL_any v zs (f + s * (k : Int)) b1 b2 HS.out _ lo hi (HV.out.below HB.out)).mono ?_; rintro e w2 ⟨rfl, q, rfl⟩
      generalize evP zs (f + s * (k : Int)) = z at *
      go_wp2_with (at_builtin; refine wpList_append_own _ rfl _ _ 23 rfl w.heap.size 3 i0 (.int .i64 0) 1 8 Try.underlying23 hi0 hz0 hz1 hz2 rfl (by decide) _ _ _ rfl (owns_below HW.out (below_drewN ((Below.refl _ wr).alloc (Nat.le_refl _) _) q)) ⟨wr.heap.size, 0, none⟩ 1 1 [.int .i64 z] rfl rfl (news_one wr z _) (one_one z) (by unfold maxLen; omega) (by omega) (by simp; omega) ?_)
      intro v' w1 hown1 hgrow _
      have HR := hidH hown1
      have HG := hidH hgrow
      clear hown1 hgrow
      go_wp2_with fail
      go_roundw
      case rel =>
        refine ⟨k + 1, v', by omega, by go_num, rfl, ?_, ?_⟩
        · have h := HR.out
          rw [HX.out] at h
          exact h
        · exact (below_drewN (HB.out.alloc hsz _) q).grown HG.out (by simp; omega) fun g hg => (HW.out.lt g hg).1
      case measure => simp [intOf]; omega
    · go_wp2_with fail
      go_ret
      obtain rfl : k = n := by omega
      have h := HW.out
      rw [List.take_of_length_le (by rw [valsS_length]; exact Nat.le_refl _)] at h
      exact ⟨ov, rfl, (row_of_owns h).1, HB.out⟩
end Go.Proofs.Ythinpmhoklehaaa
namespace Go.Proofs.Ythinpmhoklehaaa
set_option maxRecDepth 4000
open Go.RowKit
theorem shift_step (zs : List Int) (n : Int) (k : Nat) : evP (zs.drop k) n + evP (zs.drop (k + 1)) n = evP (zs.drop k) (n + 1) := by
  rw [evP_step, List.tail_drop]
/-- A call that moves a row of differences on to the next argument. -/
def Up (b : Nat) (L : List Int) (w : World) (e : Ending) (w' : World) : Prop := e = .returned (.tuple #[]) ∧ Blk w' b L ∧ Onto b w w'
end Go.Proofs.Ythinpmhoklehaaa
namespace Go.Proofs.Ythinpmhoklehaaa
set_option maxRecDepth 4000
open Go.RowKit
/-- What ShiftPoly answers. -/
def shiftA (zs : List Int) (n : Int) : List Int := if polyOk zs && inB 200 n then resL (shiftL zs n zs.length) else []
def shiftB (zs : List Int) (n : Int) : Bool := polyOk zs && inB 200 n && polyOk (shiftL zs n zs.length)
def stepOk (m : Int) : Bool := decide (1 ≤ m ∧ m ≤ 10)
/-- What StepPoly answers. -/
def everyL (zs : List Int) (s : Int) : List Int := leadW zs.length (valsS zs 0 s zs.length)
def stepA (zs : List Int) (m : Int) : List Int := if polyOk zs && stepOk m then resL (everyL zs m) else []
def stepB (zs : List Int) (m : Int) : Bool := polyOk zs && stepOk m && polyOk (everyL zs m)
/-- What TurnPoly answers. -/
def turnA (zs : List Int) : List Int := if polyOk zs then resL (everyL zs (-1)) else []
def turnB (zs : List Int) : Bool := polyOk zs && polyOk (everyL zs (-1))
theorem shiftA_len (zs : List Int) (n : Int) : (shiftA zs n).length ≤ 1048576 := by unfold shiftA; split <;> first | exact resL_len _ | simp
theorem stepA_len (zs : List Int) (n : Int) : (stepA zs n).length ≤ 1048576 := by unfold stepA; split <;> first | exact resL_len _ | simp
theorem turnA_len (zs : List Int) : (turnA zs).length ≤ 1048576 := by unfold turnA; split <;> first | exact resL_len _ | simp
theorem lead_shift (zs : List Int) (hs : Small zs) (n : Int) (h1 : -200 ≤ n) (h2 : n ≤ 200) : leadW zs.length (valsS zs n 1 zs.length) = shiftL zs n zs.length := by
  rw [valsS_one, lead_vals zs hs n zs.length (by omega) (by have := hs.1; omega)]
theorem inB_2 (n : Int) (h : inB 200 n = true) : -200 ≤ n ∧ n ≤ 200 := of_decide_eq_true h
end Go.Proofs.Ythinpmhoklehaaa
