/-
  The walks of the wheels' plain parts: widths, powers of ten, the text of a row of wheels, the column that stands for a number. Conditions: a width between 1 and 12 where a contract says so.
-/
import Derived.Test.YtcinhmfjnjecdaaBase
import Derived.Test.YtcinhmfjnjecdaaMath
import Derived.WalkKit
import Derived.WalkSpells
import Derived.WalkLawsBesides
import Derived.Deep.OwnRows
import Derived.Laws.IdiomStrings
import Derived.RegionTactic
import Derived.Deep.QuietTactic
import Derived.Deep.Draws
import Derived.WalkSmall
namespace Go.Proofs.Ytcinhmfjnjecdaa
set_option maxRecDepth 4000
open Go.RowKit
theorem wv_yes (n : Int) (h1 : 1 ≤ n) (h2 : n ≤ 12) (w : World) : Calls Try.prog 75 #[.int .i64 n] w fun e w' => e = .returned (.bool true) ∧ w = w' := by
  go_enter Try.func75, Try.ntmps75
  go_wp2
  go_ret
  exact ⟨rfl, rfl⟩
theorem wv_low (n : Int) (h1 : n < 1) (w : World) : Calls Try.prog 75 #[.int .i64 n] w fun e w' => e = .returned (.bool false) ∧ w = w' := by
  go_enter Try.func75, Try.ntmps75
  go_wp2
  go_ret
  exact ⟨rfl, rfl⟩
theorem wv_high (n : Int) (h1 : 12 < n) (w : World) : Calls Try.prog 75 #[.int .i64 n] w fun e w' => e = .returned (.bool false) ∧ w = w' := by
  go_enter Try.func75, Try.ntmps75
  go_wp2
  go_ret
  exact ⟨by rw [show decide (n ≤ 12) = false from decide_eq_false (by omega)]; rfl, rfl⟩
theorem pow_any (n : Nat) (hn : n ≤ 12) (w : World) : Calls Try.prog 70 #[.int .i64 n] w fun e w' => e = .returned (.int .i64 (tenP n)) ∧ w = w' := by
  go_enter Try.func70, Try.ntmps70
  go_wp2
  go_loop [3, 5] (fun p i => ∃ k : Nat, k ≤ n ∧ i = .int .i64 k ∧ p = .int .i64 (tenP k)) (fun _ i => n - (intOf i).toNat)
  case atStart => exact ⟨0, Nat.zero_le _, rfl, rfl⟩
  case round =>
    obtain ⟨k, hk, rfl, rfl⟩ := hrel
    have hp := tenP_pos k
    have hq := tenP_12 k (by omega)
    by_cases hlt : k < n
    · go_wp2
      go_round
      case rel => exact ⟨k + 1, by omega, by go_num, by rw [tenP, Int.mul_comm]⟩
      case measure => simp [intOf]; omega
    · go_wp2
      obtain rfl : k = n := by omega
      go_ret
      exact ⟨rfl, rfl⟩
/-- The cells of a row of wheels. -/
def rowC (wd : Int) (L : List Int) : Array Value := (Value.int .i64 wd :: L.map (Value.int .i64)).toArray
theorem rowC_size (wd : Int) (L : List Int) : (rowC wd L).size = L.length + 1 := by simp [rowC]
theorem rowC_at (wd : Int) (L : List Int) (k : Nat) : (rowC wd L)[k + 1]? = (L[k]?).map (Value.int .i64) := by simp [rowC]
theorem rowC_zero (wd : Int) (L : List Int) : (rowC wd L)[0]? = some (.int .i64 wd) := by simp [rowC]
theorem rowC_set (wd : Int) (L : List Int) (k : Nat) (d : Int) : (rowC wd L).setIfInBounds (k + 1) (.int .i64 d) = rowC wd (L.set k d) := by
  unfold rowC
  rw [List.setIfInBounds_toArray, List.set_cons_succ, List.map_set]
theorem rowC_start (wd : Int) : rowC wd (pad []) = #[.int .i64 wd, .int .i64 0, .int .i64 0, .int .i64 0, .int .i64 0, .int .i64 0, .int .i64 0, .int .i64 0, .int .i64 0, .int .i64 0, .int .i64 0, .int .i64 0, .int .i64 0] := rfl

/-- Bytes in a slice of which the first m are still 0. -/
def byteC (m : Nat) (l : List UInt8) : Array Value := (List.replicate m (Value.int .u8 0) ++ l.map (fun c => Value.int .u8 c.toNat)).toArray

theorem byteC_made (n : Nat) : madeCells #[Value.int .u8 0] n = byteC n [] := by
  unfold madeCells byteC
  apply Array.ext
  · simp
  · intro i h1 h2
    simp [Nat.mod_one]
theorem byteC_at (m : Nat) (l : List UInt8) (j : Nat) (h : j < m + l.length) : ∃ v, (byteC m l)[j]? = some v := by
  have : j < (byteC m l).size := by simp [byteC]; omega
  exact ⟨_, Array.getElem?_eq_getElem this⟩
theorem byteC_set (m : Nat) (l : List UInt8) (c : UInt8) : (byteC (m + 1) l).setIfInBounds m (.int .u8 c.toNat) = byteC m (c :: l) := by
  unfold byteC
  rw [List.setIfInBounds_toArray, List.set_append_left _ _ (by simp), List.replicate_succ', List.set_append_right _ _ (by simp)]
  simp
theorem setCell_new (w : World) (C : Array Value) (t q i : Nat) (v : Value) : ((w.alloc (.cells C t)).drewN q).setCell ⟨w.heap.size, i, none⟩ v = (w.alloc (.cells (C.setIfInBounds i v) t)).drewN q := by
  rw [← World.setCell_alloc_at C t w.heap.size i v rfl]
  rfl
/-- 'string(b)' of new bytes. -/
theorem conv_back (w : World) (q : Nat) (l : List UInt8) : (convert 22 9 (.slice (some ⟨w.heap.size, 0, none⟩) l.length l.length)).run Try.prog ((w.alloc (.cells (byteC 0 l) 5)).drewN q) = .ok (.string ⟨l.toArray⟩) ((w.alloc (.cells (byteC 0 l) 5)).drewN q) := by
  refine run_convert_bytes_back (P := Try.prog) ((w.alloc (.cells (byteC 0 l) 5)).drewN q) 22 9 5 ⟨w.heap.size, 0, none⟩ l.length l Try.underlying22 Try.underlying5 Try.underlying9 ?_
  intro j hj
  have e9 : (⟨w.heap.size, 0, none⟩ : Addr).add j = ⟨w.heap.size, j, none⟩ := by simp [Addr.add]; omega
  rw [e9, World.cell?_drewN, World.cell?_alloc_at _ _ _ _ rfl]
  simp [byteC, List.getElem?_eq_getElem hj]
theorem info5 : (Try.prog.info? 5).map (fun i => (i.zero, i.size, i.bytes)) = some (some (.int .u8 0), 1, 1) := by kernel_rfl
set_option maxHeartbeats 400000 in
theorem text_any (b wd : Nat) (ds : List Int) (hl : ds.length = wd) (hw : wd ≤ 12) (hds : digs ds) (w : World)
    (h0 : w.cell? ⟨b, 0, none⟩ = some (.int .i64 wd)) (hd : ∀ k d, ds[k]? = some d → w.cell? ⟨b, 1 + k, none⟩ = some (.int .i64 d)) (hb : b < w.heap.size) :
    Calls Try.prog 99 #[.pointer (some ⟨b, 0, none⟩)] w fun e w' => e = .returned (.string ⟨(txt ds).toArray⟩) ∧ Below w.heap.size w w' := by
  have HD : Hid (∀ k d, ds[k]? = some d → w.cell? ⟨b, 1 + k, none⟩ = some (.int .i64 d)) := hd
  clear hd
  have HL : Hid (ds.length = wd) := hl
  clear hl
  have hmk := run_make_row' (P := Try.prog) 22 5 (.int .u8 0) 1 Try.underlying22 info5 rfl .i64 .i64 wd (by omega) (by omega) w
  have h0' : ∀ X, (w.alloc X).cell? ⟨b, 0, none⟩ = some (.int .i64 wd) := fun X => by
    rw [World.cell?_alloc_past _ _ _ hb]; exact h0
  go_enter Try.func99, Try.ntmps99
  go_wp2
  go_loopw [4, 14] (fun u i wr => ∃ k q : Nat, k ≤ wd ∧ i = .int .i64 k ∧ wr = (w.alloc (.cells (byteC (wd - k) (txt (ds.take k))) 5)).drewN q) (fun _ i _ => wd - (intOf i).toNat)
  case atStart => exact ⟨0, 0, Nat.zero_le _, rfl, by rw [byteC_made]; rfl⟩
  case round =>
    obtain ⟨k, q, hk, rfl, rfl⟩ := hrel
    by_cases hlt : k < wd
    · obtain ⟨d, hd⟩ : ∃ d, ds[k]? = some d := ⟨_, List.getElem?_eq_getElem (by rw [HL.out]; exact hlt)⟩
      have hdd := hds d (List.mem_of_getElem? hd)
      have hcd : ∀ X, (w.alloc X).cell? ⟨b, 1 + k, none⟩ = some (.int .i64 d) := fun X => by
        rw [World.cell?_alloc_past _ _ _ hb]; exact HD.out _ _ hd
      have HK : Hid (ds[k]? = some d) := hd
      clear hd
      obtain ⟨v, hv⟩ := byteC_at (wd - k) (txt (ds.take k)) (wd - 1 - k) (by omega)
      go_wp2
      go_region
      go_wp2
      go_roundw
      case rel =>
        refine ⟨k + 1, q + 1, by omega, by go_num, ?_⟩
        rw [setCell_new, take_get _ _ _ HK.out, txt_snoc]
        have e1 : wd - k = (wd - 1 - k) + 1 := by omega
        have e2 : wd - (k + 1) = wd - 1 - k := by omega
        rw [e1, e2, ← byteC_set, byte_of d hdd]
      case measure => simp [intOf]; omega
    · obtain rfl : k = wd := by omega
      rw [Nat.sub_self, List.take_of_length_le (by rw [HL.out]; exact Nat.le_refl _)]
      have hcv := conv_back w q (txt ds)
      rw [txt_length, HL.out] at hcv
      go_wp2
      go_ret
      exact ⟨rfl, below_drewN ((Below.refl _ _).alloc (Nat.le_refl _) _) _⟩
set_option maxHeartbeats 400000 in
theorem show_any (n : Int) (wd : Nat) (hn : -(tenP wd) ≤ n) (hn2 : n ≤ 1000000000000) (hw : wd ≤ 12) (w : World) : Calls Try.prog 89 #[.int .i64 n, .int .i64 wd] w fun e w' => e = .returned (.string ⟨(showB n wd).toArray⟩) ∧ Below w.heap.size w w' := by
  have hp := tenP_pos wd
  have hq := tenP_12 wd (by omega)
  have hp1 : 0 ≤ n + tenP wd := by omega
  have hm0 := Int.emod_nonneg (n + tenP wd) (Int.ne_of_gt hp)
  have hm1 := Int.emod_lt_of_pos (n + tenP wd) hp
  go_enter Try.func89, Try.ntmps89
  go_wp2_with fail
  refine (pow_any _ hw _).mono ?_; rintro e w' ⟨rfl, rfl⟩
  go_wp2_with fail
  have HM : Hid (showB ((n + tenP wd) % tenP wd) wd = showB n wd) := by
    show _ = _
    rw [showB_mod, showB, ← shown_mod, Int.add_emod_right, shown_mod, ← showB]
  generalize (n + tenP wd) % tenP wd = m at *
  go_loopw [6, 19] (fun p i wr => ∃ k : Nat, k ≤ wd ∧ i = .int .i64 k ∧ p = .int .i64 (rst m k) ∧ wr = w.alloc (.cells (rowC wd (pad (shown m k))) 99)) (fun _ i _ => wd - (intOf i).toNat)
  case atStart => exact ⟨0, Nat.zero_le _, rfl, rfl, rfl⟩
  case round =>
    obtain ⟨k, hk, rfl, rfl, rfl⟩ := hrel
    have hr := rst_bd m k hm0
    by_cases hlt : k < wd
    · have hc : (rowC (wd : Int) (pad (shown m k)))[1 + k]? = some (.int .i64 0) := by
        rw [Nat.add_comm, rowC_at, pad_out _ _ (by rw [shown_length]; exact Nat.le_refl _) (by omega)]; rfl
      go_wp2
      go_roundw
      case rel => exact ⟨k + 1, by omega, by go_num, by rw [rst], by rw [Nat.add_comm 1 k, rowC_set, shown_snoc, ← pad_set _ _ (by rw [shown_length]; omega), shown_length]⟩
      case measure => simp [intOf]; omega
    · obtain rfl : k = wd := by omega
      go_wp2_with fail
      have hT := text_any w.heap.size k (shown m k) (shown_length _ _) hw (shown_digs _ _) (w.alloc (.cells (rowC k (pad (shown m k))) 99)) ?_ ?_ (by simp)
      refine hT.mono ?_; rintro e w' ⟨rfl, hb⟩
      go_wp2
      go_ret
      exact ⟨by rw [← HM.out, showB]; rfl, ((Below.refl _ _).alloc (Nat.le_refl _) _).trans (hb.mono (by simp))⟩
      · simp [rowC_zero]
      · intro j d hj
        rw [World.cell?_alloc_at _ _ _ _ rfl, Nat.add_comm, rowC_at, pad_at _ _ (by have := (List.getElem?_eq_some_iff.1 hj).1; exact this), hj]
        rfl

theorem tenP_even (w : Nat) (h : 1 ≤ w) : tenP w = 2 * (tenP w / 2) ∧ 5 ≤ tenP w / 2 := by
  obtain ⟨k, rfl⟩ : ∃ k, w = k + 1 := ⟨w - 1, by omega⟩
  have := tenP_pos k
  rw [tenP]; omega
end Go.Proofs.Ytcinhmfjnjecdaa
