/-
  QuarterTable: the program and the model, at every argument. No conditions.
-/
import Derived.Test.YthinpmhoklehaaaHouA
import Derived.Test.YthinpmhoklehaaaErrD
namespace Go.Proofs.Ythinpmhoklehaaa
set_option maxRecDepth 4000
open Go.RowKit
/-- The first quarter squares. -/
def qtL (m : Nat) : List Int := (List.range m).map fun (i : Nat) => qsA (i : Int)
def qtA (n : Int) : List Int := if cntOk4 n then qtL n.toNat else []
theorem qtL_length (m : Nat) : (qtL m).length = m := by simp [qtL]
theorem qtL_get (m k : Nat) (h : k < m) : (qtL m)[k]? = some (qsA (k : Int)) := by simp [qtL, h]
theorem qtA_len (n : Int) : (qtA n).length ≤ 1048576 := by
  unfold qtA
  split
  · rename_i h
    have := of_decide_eq_true h
    rw [qtL_length]; omega
  · simp
theorem qtab_no (n : Int) (w : World) (h : cntOk4 n = false) : Calls Try.prog 18 #[.int .i64 n] w (NewRow [] w) := by
  have HC := hidH (fun W' => countValid_any n W')
  rw [h] at HC
  clear h
  go_enter Try.func18, Try.ntmps18
  go_wp2_with fail
  refine (HC.out _).mono ?_; rintro e w1 ⟨rfl, rfl⟩
  go_wp2_with fail
  go_ret
  exact ⟨_, rfl, Row.nil _ _ _ _ _ (Nat.zero_le _) (fun _ => rfl), Below.refl _ _⟩
set_option maxHeartbeats 800000 in
theorem qtab_yes (m : Nat) (w : World) (h : cntOk4 (m : Int) = true) : Calls Try.prog 18 #[.int .i64 m] w (NewRow (qtL m) w) := by
  have HC := hidH (fun W' => countValid_any (m : Int) W')
  have ⟨_, h60⟩ := of_decide_eq_true h
  have HQ := hidH (fun (k : Nat) W' => qsAt (k : Int) W')
  rw [h] at HC
  have HLL := hidH (qtL_length m)
  have HM := hidH (Blk.made w 3 m)
  have hmk := run_make_row' (P := Try.prog) 23 3 (.int .i64 0) 8 Try.underlying23 infoInt rfl .i64 .i64 m (by omega) (by omega) w
  clear h
  go_enter Try.func18, Try.ntmps18
  go_wp2_with fail
  refine (HC.out _).mono ?_; rintro e w1 ⟨rfl, rfl⟩
  go_wp2_with fail
  go_loopw [11] (fun i wr => ∃ k : Nat, k ≤ m ∧ i = .int .i64 k ∧ Blk wr w.heap.size (fill (qtL m) k) ∧ Below w.heap.size w wr) (fun i _ => m - (intOf i).toNat)
  case atStart => exact ⟨0, Nat.zero_le _, rfl, by have := HM.out; rw [fill_zero, HLL.out]; exact this, (Below.refl _ _).alloc (Nat.le_refl _) _⟩
  case round =>
    obtain ⟨k, hk, rfl, hblk, hb⟩ := hrel
    have HBK := hidH hblk
    have HBq := hidH hb
    clear hblk hb
    by_cases hlt : k < m
    · obtain ⟨ho, hf⟩ := HBK.out.2 k 0 (fill_at _ _ (by rw [HLL.out]; exact hlt))
      have HG := hidH (fill_set _ k _ (qtL_get m k hlt))
      have HST := hidH (HBK.out.set k (qsA (k : Int)))
      have HQK := hidH (HQ.out k)
      generalize qsA (k : Int) = qk at *
      go_wp2_with fail
      refine (HQK.out _).mono ?_; rintro e w2 ⟨rfl, rfl⟩
      go_wp2_with fail
      go_roundw
      case rel => exact ⟨k + 1, by omega, by go_num, by rw [← HG.out]; exact HST.out, HBq.out.setCell (Nat.le_refl _) _⟩
      case measure => simp [intOf]; omega
    · obtain rfl : k = m := by omega
      go_wp2_with fail
      go_ret
      have h := HBK.out
      have e := fill_all (qtL k)
      rw [HLL.out] at e
      rw [e] at h
      exact ⟨_, rfl, h.row (by omega) h.1 (by rw [HLL.out]; exact Nat.le_refl _) (by unfold maxLen; omega) HLL.out.symm, HBq.out⟩
theorem qtab_any (n : Int) (w : World) : Calls Try.prog 18 #[.int .i64 n] w (NewRow (qtA n) w) := by
  unfold qtA
  cases h : cntOk4 n
  · exact qtab_no n w h
  · obtain ⟨m, rfl⟩ := Int.eq_ofNat_of_zero_le (of_decide_eq_true h).1
    exact qtab_yes m w h
theorem sQtab_no (n : Int) (w : World) (h : cntOk4 n = false) : Calls Try.prog 30 #[.int .i64 n] w (NewRow [] w) := by
  have h := of_decide_eq_false h
  have HO := hidH (World.ownsRow_made (base := w.heap.size) (e := 3) (size := 1) w #[] 0 (Nat.le_refl _) (Nat.zero_le _) rfl)
  rcases (show n < 0 ∨ 60 < n by omega) with h1 | h1
  · clear h
    go_enter Try.func30, Try.ntmps30
    go_wp2_with fail
    go_loopw [3, 4] (fun o i wr => o = .slice (some ⟨w.heap.size, 0, none⟩) 0 0 ∧ i = .int .i64 0 ∧ wr = w.alloc (.cells #[] 3)) (fun _ _ _ => 0)
    case atStart => exact ⟨rfl, rfl, rfl⟩
    case round =>
      obtain ⟨rfl, rfl, rfl⟩ := hrel
      go_wp2_with fail
      go_ret
      exact ⟨_, rfl, Row.nil _ _ _ _ _ (Nat.zero_le _) (fun h => by cases h), (Below.refl _ _).alloc (Nat.le_refl _) _⟩
  · clear h
    go_enter Try.func30, Try.ntmps30
    go_wp2_with fail
    go_loopw [3, 4] (fun o i wr => o = .slice (some ⟨w.heap.size, 0, none⟩) 0 0 ∧ i = .int .i64 0 ∧ wr = w.alloc (.cells #[] 3)) (fun _ _ _ => 0)
    case atStart => exact ⟨rfl, rfl, rfl⟩
    case round =>
      obtain ⟨rfl, rfl, rfl⟩ := hrel
      go_wp2_with fail
      go_ret
      exact ⟨_, rfl, Row.nil _ _ _ _ _ (Nat.zero_le _) (fun h => by cases h), (Below.refl _ _).alloc (Nat.le_refl _) _⟩
set_option maxHeartbeats 800000 in
theorem sQtab_yes (m : Nat) (w : World) (h : cntOk4 (m : Int) = true) : Calls Try.prog 30 #[.int .i64 m] w (NewRow (qtL m) w) := by
  have ⟨_, h60⟩ := of_decide_eq_true h
  have h60' : decide ((m : Int) ≤ 60) = true := decide_eq_true h60
  have HLL := hidH (qtL_length m)
  obtain ⟨i0, hi0, hz0, hz1, hz2⟩ := info_parts infoInt
  have HO := hidH (World.ownsRow_made (base := w.heap.size) (e := 3) (size := 1) w #[] 0 (Nat.le_refl _) (Nat.zero_le _) rfl)
  clear h
  go_enter Try.func30, Try.ntmps30
  go_wp2_with fail
  go_loopw [3, 4] (fun o i wr => ∃ (k : Nat) (ov : Value), k ≤ m ∧ i = .int .i64 k ∧ ov = o ∧ wr.ownsRow w.heap.size 3 1 ov k (ints ((qtL m).take k)) ∧ Below w.heap.size w wr) (fun _ i _ => m - (intOf i).toNat)
  case atStart => exact ⟨0, _, Nat.zero_le _, rfl, rfl, HO.out, (Below.refl _ _).alloc (Nat.le_refl _) _⟩
  case round =>
    obtain ⟨k, ov, hk, rfl, rfl, hown, hb⟩ := hrel
    have HW := hidH hown
    have HBq := hidH hb
    clear hown hb
    have hszq := HBq.out.size
    by_cases hlt : k < m
    · have HX := hidH (ints_snoc _ k _ (qtL_get m k hlt))
      have hq : qrtOk (k : Int) = true := decide_eq_true (by omega)
      have hqe : qsA (k : Int) = qsD ((k : Int) * k) := by rw [qsA, hq]; rfl
      obtain ⟨h0, h1, h2⟩ := qs_sq (k : Int) hq
      obtain ⟨P, hP⟩ : ∃ P, P = (k : Int) * k := ⟨_, rfl⟩
      rw [hqe, ← hP] at HX
      rw [← hP] at h0 h1 h2
      have HW1 := hidH (show wrap64 ((k : Int) * k) = P by rw [← hP]; exact IntWalk.wrap64_in _ (by omega))
      have HW2 := hidH (show IntKind.i64.wrap ((k : Int) * k) = P by rw [← hP]; exact IntWalk.i64_in _ (by omega))
      have hw1 := HW1.out
      have hw2 := HW2.out
      have HXD := hidH (show (Value.int .i64 (qsD P)) = Value.int .i64 (P / 4) from rfl)
      clear hq hqe hP
      go_wp2_with (at_builtin; refine wpList_append_own _ rfl _ _ 23 rfl w.heap.size 3 i0 (.int .i64 0) 1 8 Try.underlying23 hi0 hz0 hz1 hz2 rfl (by decide) _ _ _ rfl (owns_below HW.out ((Below.refl _ _).alloc (Nat.le_refl _) _)) ⟨wr.heap.size, 0, none⟩ 1 1 [.int .i64 (qsD P)] rfl rfl (news_one wr _ _) (one_one _) (by unfold maxLen; omega) (by omega) (by simp; omega) ?_)
      intro v' w1 hown1 hgrow _
      have HR := hidH hown1
      have HG := hidH hgrow
      clear hown1 hgrow
      go_wp2_with fail
      go_roundw
      case rel =>
        refine ⟨k + 1, v', by omega, by go_num, rfl, ?_, ?_⟩
        · have h := HR.out
          rw [HX.out] at h
          exact h
        · exact (HBq.out.alloc hszq _).grown HG.out (by simp; omega) fun g hg => (HW.out.lt g hg).1
      case measure => simp [intOf]; omega
    · obtain rfl : k = m := by omega
      have h := HW.out
      rw [List.take_of_length_le (by rw [HLL.out]; exact Nat.le_refl _)] at h
      have HRW := hidH (row_of_owns h).1
      clear h
      go_wp2_with fail
      go_ret
      exact ⟨_, rfl, HRW.out, HBq.out⟩
theorem sQtab_any (n : Int) (w : World) : Calls Try.prog 30 #[.int .i64 n] w (NewRow (qtA n) w) := by
  unfold qtA
  cases h : cntOk4 n
  · exact sQtab_no n w h
  · obtain ⟨m, rfl⟩ := Int.eq_ofNat_of_zero_le (of_decide_eq_true h).1
    exact sQtab_yes m w h
end Go.Proofs.Ythinpmhoklehaaa
