/-
  Lines from their ends to their beginnings: the program. Condition: lines of at most 100 bytes.
-/
import Derived.Test.YtgafhkjcdddhcaaDoorLnwA
import Derived.BigRegion
import Derived.Deep.RegionWith
import Derived.Laws.IdiomStrings
namespace Go.Proofs.YtgafhkjcdddhcaaDoor
set_option maxRecDepth 4000
open Go.RowKit
/-- A block's first n cells are bytes and can be written. -/
def BlkF (w : World) (b n : Nat) (f : Nat → UInt8) : Prop := b < w.heap.size ∧ ∀ j, j < n → w.cell? ⟨b, j, none⟩ = some (.int .u8 ((f j).toNat : Int)) ∧ w.frozen? ⟨b, j, none⟩ = false
/-- Bytes of which the first and the last i have changed places. -/
def revF (g : Nat → UInt8) (n i : Nat) (k : Nat) : UInt8 := if k < i ∨ n - 1 - i < k then g (n - 1 - k) else g k
theorem BlkF.swap {w : World} {b n : Nat} {g : Nat → UInt8} {i m : Nat} (h : BlkF w b n (revF g n i)) (hi : i < m) (hm : m = n - 1 - i) (hn : m < n) :
    BlkF (((w.setCell ⟨b, i, none⟩ (.int .u8 ((g m).toNat : Int))).setCell ⟨b, m, none⟩ (.int .u8 ((g i).toNat : Int))).drew) b n (revF g n (i + 1)) := by
  refine ⟨by simpa [World.setCell] using h.1, fun j hj => ⟨?_, ?_⟩⟩
  · show ((w.setCell ⟨b, i, none⟩ (.int .u8 ((g m).toNat : Int))).setCell ⟨b, m, none⟩ (.int .u8 ((g i).toNat : Int))).cell? ⟨b, j, none⟩ = _
    by_cases e1 : j = m
    · subst e1
      have h1 := (h.2 j hj).1
      rw [World.cell?_setCell_same _ _ _ (u := .int .u8 ((revF g n i j).toNat : Int)) (by rw [World.cell?_setCell_other _ _ _ _ (by intro h; injection h; omega)]; exact h1)]
      have : revF g n (i + 1) j = g i := by unfold revF; rw [if_pos (.inr (by omega)), show n - 1 - j = i by omega]
      rw [this]
    · rw [World.cell?_setCell_other _ _ _ _ (by intro h; injection h; omega)]
      by_cases e2 : j = i
      · subst e2
        rw [World.cell?_setCell_same _ _ _ (h.2 j hj).1]
        have : revF g n (j + 1) j = g m := by unfold revF; rw [if_pos (.inl (by omega)), hm]
        rw [this]
      · rw [World.cell?_setCell_other _ _ _ _ (by intro h; injection h; omega), (h.2 j hj).1]
        have : revF g n (i + 1) j = revF g n i j := by
          unfold revF
          by_cases c : j < i ∨ n - 1 - i < j
          · rw [if_pos c, if_pos (by omega)]
          · rw [if_neg c, if_neg (by omega)]
        rw [this]
  · have := (h.2 j hj).2
    show ((w.setCell ⟨b, i, none⟩ (.int .u8 ((g m).toNat : Int))).setCell ⟨b, m, none⟩ (.int .u8 ((g i).toNat : Int))).frozen? ⟨b, j, none⟩ = false
    simpa using this
theorem reverse_any (b n cap : Nat) (g : Nat → UInt8) (w : World) (h : BlkF w b n g) (hn : n ≤ 9223372036854775807) :
    Calls Tryd.prog 76 #[.slice (some ⟨b, 0, none⟩) n cap] w fun e w' => e = .returned (.tuple #[]) ∧ BlkF w' b n (fun k => g (n - 1 - k)) ∧ Onto b w w' := by
  have H0 := hidH (show BlkF w b n (revF g n 0) from ⟨h.1, fun j hj => by
    have : revF g n 0 j = g j := by unfold revF; rw [if_neg (by omega)]
    rw [this]; exact h.2 j hj⟩)
  clear h
  go_enter Tryd.func76, Tryd.ntmps76
  go_wp2_with fail
  go_loopw [2, 3] (fun a c wr => ∃ (i : Nat) (x : Int), a = .int .i64 i ∧ c = .int .i64 x ∧ x = n - 1 - i ∧ i ≤ n ∧ BlkF wr b n (revF g n i) ∧ Onto b w wr) (fun a _ _ => n - (intOf a).toNat)
  case atStart => exact ⟨0, _, rfl, rfl, by omega, Nat.zero_le _, H0.out, Onto.refl _ _⟩
  case round =>
    obtain ⟨i, x, rfl, rfl, hx, hi, hB, hO⟩ := hrel
    have HB := hidH hB
    have HO := hidH hO
    clear hB hO H0
    by_cases hlt : (i : Int) < x
    · obtain ⟨m, rfl⟩ : ∃ m : Nat, x = m := ⟨x.toNat, by omega⟩
      have him : i < m := by omega
      have hmn : m = n - 1 - i := by omega
      have hml : m < n := by omega
      have hil : i < n := by omega
      obtain ⟨c1, f1⟩ := HB.out.2 i hil
      obtain ⟨c2, f2⟩ := HB.out.2 m hml
      have e1 : revF g n i i = g i := by unfold revF; rw [if_neg (by omega)]
      have e2 : revF g n i m = g m := by unfold revF; rw [if_neg (by omega)]
      rw [e1] at c1
      rw [e2] at c2
      have HN := hidH (HB.out.swap him hmn hml)
      have HX := hidH hx
      have HMN := hidH hmn
      clear hx hlt hmn e1 e2
      go_wp2_with fail
      go_region
      all_goals
        have HX' := HX.out
        go_wp2_with fail
        go_roundw
        case rel => exact ⟨i + 1, _, by go_num, rfl, by omega, by omega, HN.out, (HO.out.trans ((Onto.setCell b i wr _).trans (Onto.setCell b m _ _))).drewN 1⟩
        case measure => simp [intOf]; omega
    · have HR := hidH (show BlkF wr b n (fun k => g (n - 1 - k)) from ⟨HB.out.1, fun j hj => by
        have : revF g n i j = g (n - 1 - j) := by
          unfold revF
          by_cases c : j < i ∨ n - 1 - i < j
          · rw [if_pos c]
          · rw [if_neg c, show n - 1 - j = j by omega]
        have h2 := HB.out.2 j hj
        rw [this] at h2; exact h2⟩)
      go_wp2_with fail
      go_end0
      exact ⟨rfl, HR.out, HO.out⟩
/-- A text from its end to its beginning. -/
def revB (s : ByteArray) : ByteArray := ⟨s.data.toList.reverse.toArray⟩
theorem revB_size (s : ByteArray) : (revB s).size = s.size := by
  show s.data.toList.reverse.toArray.size = s.size
  simp
theorem bytes_new (w : World) (s : ByteArray) (cap : Nat) : BlkF (w.drew.alloc (.cells (bytesRow s cap) 5 ((bytesRow s cap).size, (bytesRow s cap).size + 1))) w.heap.size s.size (fun k => s.data.toList.getD k 0) := by
  refine ⟨by simp, fun j hj => ⟨?_, ?_⟩⟩
  · have hh := heap_alloc_new w.drew (.cells (bytesRow s cap) 5 ((bytesRow s cap).size, (bytesRow s cap).size + 1))
    have hj' : j < s.data.size := hj
    have hjl : j < s.data.toList.length := by simpa using hj'
    have hbr : (bytesRow s cap)[j]? = some (.int .u8 (s.data[j].toNat : Int)) := by
      unfold bytesRow
      rw [Array.getElem?_append_left (by simpa using hj'), Array.getElem?_map]
      simp [Array.getElem?_eq_getElem hj']
    rw [show (fun k => s.data.toList.getD k 0) j = s.data[j] by show s.data.toList.getD j 0 = _; rw [List.getD_eq_getElem?_getD, List.getElem?_eq_getElem hjl]; simp]
    rw [show (w.drew.heap.size) = w.heap.size from rfl] at hh
    unfold World.cell?
    rw [hh]
    simpa using hbr
  · have hs : j < (bytesRow s cap).size := by
      have hj' : j < s.data.size := hj
      unfold bytesRow
      simp
      omega
    unfold World.frozen?
    rw [show (w.drew.alloc (.cells (bytesRow s cap) 5 ((bytesRow s cap).size, (bytesRow s cap).size + 1))).heap[w.heap.size]? = some (.cells (bytesRow s cap) 5 ((bytesRow s cap).size, (bytesRow s cap).size + 1)) from heap_alloc_new w.drew _]
    simp
    omega
set_option maxHeartbeats 1000000 in
theorem mirrored_any (s : ByteArray) (hs : s.size ≤ 9223372036854775807) (w : World) : Calls Tryd.prog 53 #[.string s] w (Gives (.string (revB s)) w) := by
  have hcv := run_bytes_of_string (P := Tryd.prog) w 9 22 5 s Tryd.underlying9 Tryd.underlying22 Tryd.underlying5
  have hgc := grownCap_ge w s.size 0 5
  have hgm := grownCap_le_maxLen w s.size 0 5 (by unfold maxLen; omega)
  unfold maxLen at hgm
  generalize grownCap w s.size 0 5 = cap at *
  have HB := hidH (bytes_new w s cap)
  have HX := hidH ((Below.refl _ w).drew.alloc (Nat.le_refl _) (.cells (bytesRow s cap) 5 ((bytesRow s cap).size, (bytesRow s cap).size + 1)))
  generalize w.drew.alloc (.cells (bytesRow s cap) 5 ((bytesRow s cap).size, (bytesRow s cap).size + 1)) = w1 at *
  have HR := hidH (reverse_any w.heap.size s.size cap _ w1 HB.out (by omega))
  go_enter Tryd.func53, Tryd.ntmps53
  go_wp2_with fail
  refine HR.out.mono ?_; rintro e w2 ⟨rfl, hB, hO⟩
  have HB2 := hidH (HX.out.trans (hO.below (Nat.le_refl _) HX.out.size))
  have hbk := run_convert_bytes_back (P := Tryd.prog) w2 22 9 5 ⟨w.heap.size, 0, none⟩ cap s.data.toList.reverse Tryd.underlying22 Tryd.underlying5 Tryd.underlying9 (fun j hj => by
    have hj' : j < s.size := by simpa using hj
    rw [show (⟨w.heap.size, 0, none⟩ : Addr).add j = ⟨w.heap.size, j, none⟩ by simp [Addr.add]; omega, (hB.2 j hj').1]
    show some (Value.int .u8 ((s.data.toList.getD (s.size - 1 - j) 0).toNat : Int)) = _
    have hl : s.data.toList.length = s.size := by simp
    rw [List.getElem_reverse, List.getD_eq_getElem?_getD, show s.size - 1 - j = s.data.toList.length - 1 - j by rw [hl], List.getElem?_eq_getElem (by omega)]
    rfl)
  rw [show s.data.toList.reverse.length = s.size by simp] at hbk
  clear hB hO hcv
  go_wp2_with fail
  go_ret
  exact ⟨rfl, HB2.out⟩
end Go.Proofs.YtgafhkjcdddhcaaDoor
