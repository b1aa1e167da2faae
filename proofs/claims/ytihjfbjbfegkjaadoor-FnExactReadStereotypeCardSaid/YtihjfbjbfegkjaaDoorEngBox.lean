/-
  Engines in memory: an engine's slice in a block of its own, loaded and stored whole, and returned. No conditions.
  The laws' own functions on engines: a copy, equality, marks and whether they still stand, and the size. Condition: at most 1048576 columns.
-/
import Derived.Test.YtihjfbjbfegkjaaDoorBox
import Derived.Test.YtihjfbjbfegkjaaDoorSs
import Derived.Laws.Rows
import Derived.Laws.ResultCell
namespace Go.Proofs.YtihjfbjbfegkjaaDoor
set_option maxRecDepth 4000
set_option linter.unusedVariables false
open Go.RowKit
theorem slice_one (a : Option Addr) (n cap : Nat) : (#[Value.slice a n cap] : Array Value).all (·.oneCell') = true := by simp [Value.oneCell']
theorem LiesS.some {w : World} {lo hi : Nat} {v : Value} {zs : List ByteArray} (h : LiesS w lo hi v zs) : ∃ a cap, v = .slice a zs.length cap := by
  obtain ⟨a, cap, e, _⟩ := h
  exact ⟨a, cap, e⟩
theorem RowS.some {w : World} {lo hi : Nat} {v : Value} {zs : List ByteArray} (h : RowS w lo hi v zs) : ∃ a cap, v = .slice a zs.length cap := by
  obtain ⟨a, cap, e, _⟩ := h
  exact ⟨a, cap, e⟩
theorem onto_setRow (r : Nat) (w : World) (cs : Array Value) : Onto r w (w.setRow r cs) :=
  ⟨rfl, rfl, rfl, by simp, fun k _ hk => setRow_other w r k cs hk⟩
theorem bDrew' {w w' : World} (h : Below w.drew.heap.size w.drew w') : Below w.heap.size w w' := bThen ((Below.refl w.heap.size w).drew) h
end Go.Proofs.YtihjfbjbfegkjaaDoor
namespace Go.Proofs.YtihjfbjbfegkjaaDoor
set_option maxRecDepth 4000
set_option linter.unusedVariables false
open Go.RowKit
/-- What the size of a list of texts leaves. -/
def Sized (zs : List ByteArray) (left : Nat) (w : World) (e : Ending) (w' : World) : Prop :=
  ∃ r : Int, e = .returned (.int .i64 r) ∧ (r = -1 ∨ (∃ m : Nat, r = m ∧ m ≤ left) ∧ zs.length ≤ left ∧ ∀ z ∈ zs, z.size ≤ left) ∧ Below w.heap.size w w'
theorem szTexts_any (v : Value) (zs : List ByteArray) (left : Nat) (w : World) (lo hi : Nat) (hv : LiesS w lo hi v zs) (hz : ∀ z ∈ zs, z.size ≤ 9223372036854775807) (hl : left ≤ 1048576) : Calls Tryd.prog 12 #[v, .int .i64 left] w (Sized zs left w) := by
  obtain ⟨a, cap, rfl, hlc, hcm, hnil, hcell⟩ := hv
  unfold maxLen at hcm
  have HC := hidH hcell
  have HZ := hidH hz
  clear hcell hnil hz
  by_cases hbig : left < zs.length
  · go_enter Tryd.func12, Tryd.ntmps12
    go_wp2
    go_ret
    exact ⟨_, rfl, .inl rfl, Below.refl _ _⟩
  · go_enter Tryd.func12, Tryd.ntmps12
    go_wp2
    go_loopw [1, 5] (fun m i wr => ∃ k n : Nat, k ≤ zs.length ∧ i = .int .i64 k ∧ m = .int .i64 n ∧ n ≤ left ∧ (∀ j z, j < k → zs[j]? = some z → z.size ≤ left) ∧ Below w.heap.size w wr) (fun _ i _ => zs.length - (intOf i).toNat)
    case atStart => exact ⟨0, left - zs.length, Nat.zero_le _, rfl, by go_num, by omega, fun j _ hj => absurd hj (Nat.not_lt_zero _), Below.refl _ _⟩
    case round =>
      obtain ⟨k, n, hk, rfl, rfl, hn, hall, hb⟩ := hrel
      have HA := hidH hall
      have HB := hidH hb
      clear hall hb
      by_cases hlt : k < zs.length
      · obtain ⟨z, hz⟩ := get_lt zs k hlt
        obtain ⟨b, off, rfl, _, _, hc⟩ := HC.out k z hz
        have hcw : wr.cell? ⟨b, off + k, none⟩ = some (.string z) := by rw [HB.out.cell (p := ⟨b, off + k, none⟩) (cell_blk _ _ _ hc)]; exact hc
        have hzs := HZ.out z (List.mem_of_getElem? hz)
        have HZZ := hidH hz
        clear hz hc
        by_cases hfit : z.size ≤ n
        · go_wp2
          go_roundw
          case rel =>
            refine ⟨k + 1, n - z.size, by omega, by go_num, by go_num, by omega, fun j y hj hy => ?_, by first | exact HB.out | exact below_drewN HB.out _⟩
            by_cases e : j = k
            · subst e
              rw [HZZ.out] at hy
              injection hy with hy
              rw [← hy]; omega
            · exact HA.out j y (by omega) hy
          case measure => simp [intOf]; omega
        · go_wp2
          go_ret
          exact ⟨_, rfl, .inl rfl, by first | exact HB.out | exact below_drewN HB.out _⟩
      · obtain rfl : k = zs.length := by omega
        go_wp2
        go_ret
        refine ⟨_, rfl, .inr ⟨⟨n, rfl, hn⟩, by omega, fun z hz => ?_⟩, HB.out⟩
        obtain ⟨j, hj, rfl⟩ := List.getElem_of_mem hz
        exact HA.out j _ hj (List.getElem?_eq_getElem hj)
/-- A call that answers a new engine. -/
def NewEng (zs : List ByteArray) (w : World) (e : Ending) (w' : World) : Prop := ∃ v, e = .returned (.agg #[v]) ∧ RowS w' w.heap.size w'.heap.size v zs ∧ Below w.heap.size w w'
/-- A call that answers a new engine and a truth. -/
def NewEngB (zs : List ByteArray) (b : Bool) (w : World) (e : Ending) (w' : World) : Prop := ∃ v, e = .returned (.tuple #[.agg #[v], .bool b]) ∧ RowS w' w.heap.size w'.heap.size v zs ∧ Below w.heap.size w w'
end Go.Proofs.YtihjfbjbfegkjaaDoor
