/-
  The walks of the wheels' plain parts: widths, powers of ten, the text of a row of wheels, the column that stands for a number. Conditions: a width between 1 and 12 where a contract says so.
-/
import Derived.Test.YtgafhkjcdddhcaaDoorBase
import Derived.Test.YtgafhkjcdddhcaaDoorMath
import Derived.WalkKit
import Derived.WalkSpells
import Derived.WalkLawsBesides
import Derived.Deep.OwnRows
import Derived.Laws.IdiomStrings
import Derived.RegionTactic
import Derived.Deep.QuietTactic
import Derived.Deep.Draws
import Derived.WalkSmall
namespace Go.Proofs.YtgafhkjcdddhcaaDoor
set_option maxRecDepth 4000
open Go.RowKit
theorem wv_yes (n : Int) (h1 : 1 ≤ n) (h2 : n ≤ 12) (w : World) : Calls Tryd.prog 94 #[.int .i64 n] w fun e w' => e = .returned (.bool true) ∧ w = w' := by
  go_enter Tryd.func94, Tryd.ntmps94
  go_wp2
  go_ret
  exact ⟨rfl, rfl⟩
theorem wv_low (n : Int) (h1 : n < 1) (w : World) : Calls Tryd.prog 94 #[.int .i64 n] w fun e w' => e = .returned (.bool false) ∧ w = w' := by
  go_enter Tryd.func94, Tryd.ntmps94
  go_wp2
  go_ret
  exact ⟨rfl, rfl⟩
theorem wv_high (n : Int) (h1 : 12 < n) (w : World) : Calls Tryd.prog 94 #[.int .i64 n] w fun e w' => e = .returned (.bool false) ∧ w = w' := by
  go_enter Tryd.func94, Tryd.ntmps94
  go_wp2
  go_ret
  exact ⟨by rw [show decide (n ≤ 12) = false from decide_eq_false (by omega)]; rfl, rfl⟩
/-- The cells of a row of wheels. -/
def rowC (wd : Int) (L : List Int) : Array Value := (Value.int .i64 wd :: L.map (Value.int .i64)).toArray
theorem rowC_size (wd : Int) (L : List Int) : (rowC wd L).size = L.length + 1 := by simp [rowC]
theorem rowC_at (wd : Int) (L : List Int) (k : Nat) : (rowC wd L)[k + 1]? = (L[k]?).map (Value.int .i64) := by simp [rowC]
theorem rowC_zero (wd : Int) (L : List Int) : (rowC wd L)[0]? = some (.int .i64 wd) := by simp [rowC]
theorem rowC_set (wd : Int) (L : List Int) (k : Nat) (d : Int) : (rowC wd L).setIfInBounds (k + 1) (.int .i64 d) = rowC wd (L.set k d) := by
  unfold rowC
  rw [List.setIfInBounds_toArray, List.set_cons_succ, List.map_set]
theorem rowC_start (wd : Int) : rowC wd (pad []) = #[.int .i64 wd, .int .i64 0, .int .i64 0, .int .i64 0, .int .i64 0, .int .i64 0, .int .i64 0, .int .i64 0, .int .i64 0, .int .i64 0, .int .i64 0, .int .i64 0, .int .i64 0] := rfl

/-- Bytes in a slice of which the first m are still 0. -/
def byteC (m : Nat) (l : List UInt8) : Array Value := (List.replicate m (Value.int .u8 0) ++ l.map (fun c => Value.int .u8 c.toNat)).toArray

theorem byteC_made (n : Nat) : madeCells #[Value.int .u8 0] n = byteC n [] := by
  unfold madeCells byteC
  apply Array.ext
  · simp
  · intro i h1 h2
    simp [Nat.mod_one]
theorem byteC_at (m : Nat) (l : List UInt8) (j : Nat) (h : j < m + l.length) : ∃ v, (byteC m l)[j]? = some v := by
  have : j < (byteC m l).size := by simp [byteC]; omega
  exact ⟨_, Array.getElem?_eq_getElem this⟩
theorem byteC_set (m : Nat) (l : List UInt8) (c : UInt8) : (byteC (m + 1) l).setIfInBounds m (.int .u8 c.toNat) = byteC m (c :: l) := by
  unfold byteC
  rw [List.setIfInBounds_toArray, List.set_append_left _ _ (by simp), List.replicate_succ', List.set_append_right _ _ (by simp)]
  simp
theorem setCell_new (w : World) (C : Array Value) (t q i : Nat) (v : Value) : ((w.alloc (.cells C t)).drewN q).setCell ⟨w.heap.size, i, none⟩ v = (w.alloc (.cells (C.setIfInBounds i v) t)).drewN q := by
  rw [← World.setCell_alloc_at C t w.heap.size i v rfl]
  rfl
/-- 'string(b)' of new bytes. -/
theorem conv_back (w : World) (q : Nat) (l : List UInt8) : (convert 22 9 (.slice (some ⟨w.heap.size, 0, none⟩) l.length l.length)).run Tryd.prog ((w.alloc (.cells (byteC 0 l) 5)).drewN q) = .ok (.string ⟨l.toArray⟩) ((w.alloc (.cells (byteC 0 l) 5)).drewN q) := by
  refine run_convert_bytes_back (P := Tryd.prog) ((w.alloc (.cells (byteC 0 l) 5)).drewN q) 22 9 5 ⟨w.heap.size, 0, none⟩ l.length l Tryd.underlying22 Tryd.underlying5 Tryd.underlying9 ?_
  intro j hj
  have e9 : (⟨w.heap.size, 0, none⟩ : Addr).add j = ⟨w.heap.size, j, none⟩ := by simp [Addr.add]; omega
  rw [e9, World.cell?_drewN, World.cell?_alloc_at _ _ _ _ rfl]
  simp [byteC, List.getElem?_eq_getElem hj]
theorem info5 : (Tryd.prog.info? 5).map (fun i => (i.zero, i.size, i.bytes)) = some (some (.int .u8 0), 1, 1) := by kernel_rfl
theorem tenP_even (w : Nat) (h : 1 ≤ w) : tenP w = 2 * (tenP w / 2) ∧ 5 ≤ tenP w / 2 := by
  obtain ⟨k, rfl⟩ : ∃ k, w = k + 1 := ⟨w - 1, by omega⟩
  have := tenP_pos k
  rw [tenP]; omega
end Go.Proofs.YtgafhkjcdddhcaaDoor
