/-
  engineOf, for each function that it is handed: an engine with the columns that the function answers. Condition: at most 1048576 columns.
-/
import Derived.Test.YtcinhmfjnjecdaaEngBox
import Derived.Test.YtcinhmfjnjecdaaNegate
namespace Go.Proofs.Ytcinhmfjnjecdaa
set_option maxRecDepth 4000
set_option linter.unusedVariables false
open Go.RowKit
/-- What a function answers of the first n indices. -/
def listL (A : Nat → ByteArray × Bool) (n : Nat) : List ByteArray := (List.range n).map fun i => (A i).1
/-- Whether it answers a column each time. -/
def allA (A : Nat → ByteArray × Bool) (n : Nat) : Bool := (List.range n).all fun i => (A i).2
/-- The columns, if there are all of them. -/
def listA (A : Nat → ByteArray × Bool) (n : Nat) : List ByteArray := if allA A n then listL A n else []
theorem listL_length (A : Nat → ByteArray × Bool) (n : Nat) : (listL A n).length = n := by simp [listL]
theorem listL_at (A : Nat → ByteArray × Bool) (n k : Nat) (h : k < n) : (listL A n)[k]? = some (A k).1 := by simp [listL, h]
theorem allA_no (A : Nat → ByteArray × Bool) (n k : Nat) (h : k < n) (hk : (A k).2 = false) : allA A n = false :=
  List.all_eq_false.2 ⟨k, List.mem_range.2 h, by rw [hk]; decide⟩
theorem allA_yes (A : Nat → ByteArray × Bool) (n : Nat) (h : ∀ j, j < n → (A j).2 = true) : allA A n = true :=
  List.all_eq_true.2 fun j hj => h j (List.mem_range.1 hj)
theorem listA_len (A : Nat → ByteArray × Bool) (n : Nat) : (listA A n).length ≤ n := by
  unfold listA
  split
  · rw [listL_length]; exact Nat.le_refl _
  · simp
theorem nil_one : (#[Value.slice none 0 0] : Array Value).all (·.oneCell') = true := slice_one none 0 0
/-- A column of a width for a number, and whether there is one. -/
def colR (n wi : Int) : ByteArray × Bool := if decide (1 ≤ wi ∧ wi ≤ 12) && fits n wi.toNat then (⟨(showB n wi.toNat).toArray⟩, true) else (⟨#[]⟩, false)
theorem colR_is (n wi : Int) : colA n wi = .tuple #[.string (colR n wi).1, .bool (colR n wi).2] := by
  unfold colA colR
  split <;> rfl
theorem engineOf_setUp (p1 p2 : Addr) (A : Nat → ByteArray × Bool) (n : Nat) (w : World) (hn : n ≤ 1048576)
    (hp : ∀ (i : Nat) W, i < n → Below w.heap.size w W → Calls Try.prog 68 #[.int .i64 i, .pointer (some p1), .pointer (some p2)] W (Gives (.tuple #[.string (A i).1, .bool (A i).2]) W)) :
    Calls Try.prog 67 #[.int .i64 n, .func (.func 68) #[] #[.pointer (some p1), .pointer (some p2)]] w (NewEngB (listA A n) (allA A n) w) := by
  have HP := hidH hp
  have BB := hidH (belowN' w (.slice none 0 0))
  have E1 := hidH (EngAt.fresh w (.slice none 0 0))
  have HM := hidH (BlkS.made (w.alloc (.cells #[.slice none 0 0] 62)) 9 n)
  have hsz : (w.alloc (.cells #[.slice none 0 0] 62)).heap.size = w.heap.size + 1 := by simp
  rw [hsz] at HM
  have hmk := run_make_row' (P := Try.prog) 60 9 (.string ⟨#[]⟩) 16 Try.underlying60 infoText rfl .i64 .i64 n (by omega) (by omega) (w.alloc (.cells #[.slice none 0 0] 62))
  have HLL := hidH (listL_length A n)
  have SZ0 := hidH (eng_size (.slice none 0 0))
  have SZ1 := hidH (eng_size (.slice (some ⟨w.heap.size + 1, 0, none⟩) n n))
  have SO1 := hidH (slice_one (some ⟨w.heap.size + 1, 0, none⟩) n n)
  have HSZ := hidH hsz
  clear hp hsz
  go_enter Try.func67, Try.ntmps67
  go_wp2
  go_loopw [13] (fun i wr => ∃ k : Nat, k ≤ n ∧ i = .int .i64 k ∧ (∀ j, j < k → (A j).2 = true) ∧ BlkS wr (w.heap.size + 1) (fillS (listL A n) k) ∧ Below (w.heap.size + 1) (w.alloc (.cells #[.slice none 0 0] 62)) wr) (fun i _ => n - (intOf i).toNat)
  case atStart => exact ⟨0, Nat.zero_le _, rfl, fun j hj => absurd hj (Nat.not_lt_zero _), by rw [fill_zeroS, HLL.out]; exact HM.out, (Below.refl _ _).alloc (by rw [HSZ.out]; exact Nat.le_refl _) _⟩
  case round =>
    obtain ⟨k, hk, rfl, hall, hB, hb⟩ := hrel
    have HA := hidH hall
    have HB := hidH hB
    have Hb := hidH hb
    have HBW := hidH (BB.out.trans (hb.mono (Nat.le_succ _)))
    clear hall hB hb
    by_cases hlt : k < n
    · have HC := hidH (HP.out k wr hlt HBW.out)
      have HCM : Hid (∀ W, Below w.heap.size w W → Calls Try.prog 68 #[.int .i64 k, .pointer (some p1), .pointer (some p2)] W (Gives (.tuple #[.string (A k).1, .bool (A k).2]) W)) := hidH (fun W h => HP.out k W hlt h)
      have HFL := hidH (fill_setS (listL A n) k (A k).1 (listL_at A n k hlt))
      have HFA := hidH (fill_atS (listL A n) k (by rw [HLL.out]; exact hlt))
      cases hok : (A k).2
      · rw [hok] at HC
        have HNO := hidH (allA_no A n k hlt hok)
        clear hok
        generalize (A k).1 = x at *
        go_wp2_with fail
        refine HC.out.mono ?_; rintro e w2 ⟨rfl, hb2⟩
        have HB2 := hidH (bThen HBW.out hb2)
        have F1 := hidH ((E1.out.lowB Hb.out (Nat.lt_succ_self _)).below hb2)
        clear hb2
        go_wp2_with (refine wpList_store_row rfl 62 _ _ rfl w.heap.size #[.slice none 0 0] rfl rfl 62 _ F1.out SZ0.out rfl nil_one ?_)
        refine bodyPost_ret (results_engB Try.results67 _ _ w.heap.size _ (.bool false) rfl rfl (F1.out.setRow _)) rfl ?_
        rw [listA, HNO.out]
        exact ⟨_, rfl, RowS.nil _ _ _ _ _ (Nat.zero_le _) (fun _ => rfl), bRow HB2.out (Nat.le_refl _) _⟩
      · rw [hok] at HC
        have HYS : Hid (∀ j, j < k + 1 → (A j).2 = true) := hidH (fun j hj => by
          by_cases e : j = k
          · rw [e]; exact hok
          · exact HA.out j (by omega))
        clear hok
        generalize hx : (A k).1 = x at *
        clear hx
        go_wp2_with fail
        refine HC.out.mono ?_; rintro e w2 ⟨rfl, hb2⟩
        have HB2 := hidH (HB.out.below hb2)
        have Hb2 := hidH (Hb.out.trans (hb2.mono (by have := HB.out.1; omega)))
        obtain ⟨ho, hf⟩ := HB2.out.2 k _ HFA.out
        clear hb2
        go_wp2
        go_roundw
        case rel => exact ⟨k + 1, by omega, by go_num, HYS.out, by rw [← HFL.out]; exact HB2.out.set k x, Hb2.out.setCell (Nat.le_refl _) _⟩
        case measure => simp [intOf] <;> omega
    · obtain rfl : k = n := by omega
      have HY := hidH (allA_yes A k HA.out)
      have HFF : Hid (BlkS wr (w.heap.size + 1) (listL A k)) := hidH (by
        have h := HB.out
        have e := fill_allS (listL A k)
        rw [HLL.out] at e
        rw [e] at h
        exact h)
      have F1 := hidH (E1.out.lowB Hb.out (Nat.lt_succ_self _))
      go_wp2_with (refine wpList_store_row rfl 62 _ _ rfl w.heap.size #[.slice (some ⟨w.heap.size + 1, 0, none⟩) k k] rfl rfl 62 _ F1.out SZ1.out rfl SO1.out ?_)
      refine bodyPost_ret (results_engB Try.results67 _ _ w.heap.size _ (.bool true) rfl rfl (F1.out.setRow _)) rfl ?_
      rw [listA, HY.out]
      have HAP := HFF.out.apart (Apart.of_onto (lo := w.heap.size) (hi := w.heap.size + 1) (onto_setRow w.heap.size wr #[.slice (some ⟨w.heap.size + 1, 0, none⟩) k k]) (Nat.le_refl _) (Nat.lt_succ_self _)) (.inr (Nat.le_refl _))
      exact ⟨_, rfl, HAP.row (Nat.le_succ _) HAP.1 (by rw [HLL.out]; exact Nat.le_refl _) (by unfold maxLen; omega) HLL.out.symm, bRow HBW.out (Nat.le_refl _) _⟩
end Go.Proofs.Ytcinhmfjnjecdaa
