/-
  SkewEngine of the model: turns back a number of times, and the columns that are set up askew. Condition: columns of one width.
-/
import Derived.Test.YtffmhcahiabicaaDoorEngQ
namespace Go.Proofs.YtffmhcahiabicaaDoor
set_option maxRecDepth 4000
set_option linter.unusedVariables false
open Go.RowKit
set_option maxHeartbeats 2000000 in
theorem l3ManyBack_any (n t : Nat) (v : Value) (cs : List ByteArray) (w : World) (lo hi : Nat) (hv : LiesS w lo hi v cs) (h0 : 0 < cs.length) (hn : cs.length ≤ 1048576) (hz : ∀ z ∈ cs, colN n z) (ht : t ≤ 1000000) (nn : Int) (hnn : nn = -(t : Int)) : Calls Tryd.prog 82 #[.agg #[v], .int .i64 nn] w (NewEng (turnsL (backL difS) t cs) w) := by
  have HL := hidH hv
  have HLN := hidH (fun k => turnsL_length (backL difS) (backL_length difS) cs k)
  have HCP := hidH (fun W (h : LiesS W lo hi v cs) => l3Copy_any v cs W lo hi h h0 hn)
  have HUN := hidH (fun k u l h W (hu : LiesS W l h u (turnsL (backL difS) k cs)) => l3Undo_any n u (turnsL (backL difS) k cs) W l h hu (by rw [HLN.out]; exact h0) (by rw [HLN.out]; exact hn) (turnsL_all (backL difS) (colN n) (fun l hl => backL_all difS (colN n) (colN_dif n) l hl) cs hz k))
  have HNX := hidH (fun k => show backL difS (turnsL (backL difS) k cs) = turnsL (backL difS) (k + 1) cs from rfl)
  have HZ0 := hidH (show turnsL (backL difS) 0 cs = cs from rfl)
  have HNN := hidH hnn
  obtain ⟨a, cap, rfl⟩ := hv.some
  have ⟨t1, t2, t3, t4⟩ := two_boxes w (.slice a cs.length cap)
  have BB := hidH t1
  have E1 := hidH t2
  have E2 := hidH t3
  have S2 := hidH t4
  have cA := t2.cell
  have hlt0 : decide ((0 : Int) < nn) = false := decide_eq_false (by omega)
  have hw : IntKind.i64.wrap (-nn) = (t : Int) := by rw [hnn, Int.neg_neg]; exact IntWalk.i64_in _ (by omega)
  have hw2 : wrap64 (-nn) = (t : Int) := by rw [hnn, Int.neg_neg]; exact IntWalk.wrap64_in _ (by omega)
  clear hv hz t1 t2 t3 t4 hnn
  go_enter Tryd.func82, Tryd.ntmps82
  go_wp2_with fail
  refine (HCP.out _ (HL.out.below BB.out)).mono ?_; rintro e w1 ⟨u, rfl, hr, hb⟩
  have hs1 := hb.size
  have HB1 := hidH (bThen BB.out hb)
  have F2 := hidH (E2.out.below hb)
  have HR1 := hidH hr
  obtain ⟨a1, cap1, rfl⟩ := hr.some
  rw [S2.out] at hs1 HR1
  have G2 := hidH (F2.out.alloc (.cells #[.slice a1 cs.length cap1] 26))
  have G3 := hidH (EngAt.fresh w1 (.slice a1 cs.length cap1))
  have HR2 := hidH (HR1.out.below (belowN' w1 (.slice a1 cs.length cap1)))
  have HB2 := hidH (bMore HB1.out (.cells #[.slice a1 cs.length cap1] 26))
  have HS3 := hidH (show (w1.alloc (.cells #[.slice a1 cs.length cap1] 26)).heap.size = w1.heap.size + 1 by simp)
  clear hr hb cA
  go_wp2
  go_loopw [6] (fun i wr => i = .int .i64 0 ∧ w1.alloc (.cells #[.slice a1 cs.length cap1] 26) = wr) (fun _ _ => 0)
  case atStart => exact ⟨rfl, rfl⟩
  case round =>
    obtain ⟨rfl, rfl⟩ := hrel
    go_wp2
    go_loopw [7] (fun i wr => ∃ (k : Nat) (ov : Value) (l h : Nat), k ≤ t ∧ i = .int .i64 k ∧ EngAt wr w1.heap.size ov ∧ RowS wr l h ov (turnsL (backL difS) k cs) ∧ w.heap.size + 2 ≤ l ∧ h ≤ wr.heap.size ∧ (h ≤ w1.heap.size ∨ w1.heap.size + 1 ≤ l) ∧ Below w1.heap.size w1 wr) (fun i _ => t - (intOf i).toNat)
    case atStart => exact ⟨0, _, _, _, Nat.zero_le _, rfl, G3.out, by rw [HZ0.out]; exact HR2.out, Nat.le_refl _, by rw [HS3.out]; exact Nat.le_succ _, .inl (Nat.le_refl _), belowN' _ _⟩
    case round =>
      obtain ⟨k, ov, l, h, hk, rfl, hE, hrow, hl2, hh2, hdj, hb⟩ := hrel
      have HE := hidH hE
      have HRW := hidH hrow
      have Hb := hidH hb
      have HBW := hidH (bThen HB1.out hb)
      obtain ⟨ao, co, hov⟩ := hrow.some
      rw [HLN.out] at hov
      subst hov
      clear hE hrow hb
      by_cases hlt : k < t
      · have HC := hidH (HUN.out k _ l h wr HRW.out.lies)
        have cO := HE.out.cell
        go_wp2_with fail
        refine HC.out.mono ?_; rintro e w2 ⟨u2, rfl, hr2, hb2⟩
        have HR3 := hidH hr2
        have HE2 := hidH (HE.out.below hb2)
        have Hb2 := hidH (Hb.out.trans (hb2.mono Hb.out.size))
        have hs2 := hb2.size
        have hel := HE.out.lt
        obtain ⟨a2, c2, hu2⟩ := hr2.some
        rw [HNX.out, HLN.out] at hu2
        subst hu2
        clear hr2 hb2 cO
        have SZ := hidH (eng_size (.slice a2 cs.length c2))
        have SO := hidH (slice_one a2 cs.length c2)
        go_wp2_with (refine wpList_store_row rfl 26 _ _ rfl w1.heap.size #[.slice a2 cs.length c2] rfl rfl 26 _ HE2.out SZ.out rfl SO.out ?_)
        go_roundw
        case rel =>
          refine ⟨k + 1, _, wr.heap.size, w2.heap.size, by omega, by go_num, HE2.out.setRow _, ?_, by omega, by simp, .inr (by omega), bRow Hb2.out (Nat.le_refl _) _⟩
          exact HR3.out.apart (Apart.of_onto (lo := w1.heap.size) (hi := w1.heap.size + 1) (onto_setRow w1.heap.size _ _) (Nat.le_refl _) (Nat.lt_succ_self _)) (.inr (by omega))
        case measure => simp [intOf] <;> omega
      · obtain rfl : k = t := by omega
        have K2 := hidH (F2.out.below Hb.out)
        have SZ := hidH (eng_size (.slice ao cs.length co))
        have SO := hidH (slice_one ao cs.length co)
        have cO := HE.out.cell
        go_wp2_with (first | (refine wpList_load_row rfl 26 _ rfl w1.heap.size rfl 26 _ (0, 0) _ HE.out Tryd.underlying26 rfl SZ.out ?_) | (refine wpList_store_row rfl 26 _ _ rfl (w.heap.size + 1) #[.slice ao cs.length co] rfl rfl 26 _ K2.out SZ.out rfl SO.out ?_))
        refine bodyPost_ret (results_eng Tryd.results82 _ _ (w.heap.size + 1) _ rfl (K2.out.setRow _)) rfl ?_
        exact ⟨_, rfl, (HRW.out.apart (Apart.of_onto (lo := w.heap.size + 1) (hi := w.heap.size + 2) (onto_setRow (w.heap.size + 1) wr #[.slice ao cs.length co]) (by omega) (by omega)) (.inr hl2)).mono (by omega) (by simpa using hh2), bRow HBW.out (by omega) _⟩
/-- The first k of one list and the others of another. -/
def mixL {α : Type} (A B : List α) (k : Nat) : List α := A.take k ++ B.drop k
theorem mixL_length {α : Type} (A B : List α) (h : A.length = B.length) (k : Nat) : (mixL A B k).length = B.length := by
  unfold mixL
  rw [List.length_append, List.length_take, List.length_drop]
  omega
theorem mixL_at {α : Type} (A B : List α) (h : A.length = B.length) (k i : Nat) : (mixL A B k)[i]? = if i < k then A[i]? else B[i]? := by
  unfold mixL
  by_cases hk : k ≤ A.length
  · have hl : (A.take k).length = k := by rw [List.length_take]; omega
    by_cases hi : i < k
    · rw [if_pos hi, List.getElem?_append_left (by omega), List.getElem?_take, if_pos hi]
    · rw [if_neg hi, List.getElem?_append_right (by omega), hl, List.getElem?_drop, show k + (i - k) = i by omega]
  · rw [List.take_of_length_le (by omega), List.drop_of_length_le (by omega), List.append_nil]
    by_cases hi : i < k
    · rw [if_pos hi]
    · rw [if_neg hi, List.getElem?_eq_none (by omega), List.getElem?_eq_none (by omega)]
theorem mixL_zero {α : Type} (A B : List α) : mixL A B 0 = B := by simp [mixL]
theorem mixL_all {α : Type} (A B : List α) (h : A.length = B.length) : mixL A B B.length = A := by
  unfold mixL
  rw [List.take_of_length_le (by omega), List.drop_of_length_le (by omega), List.append_nil]
theorem mixL_set {α : Type} (A B : List α) (h : A.length = B.length) (k : Nat) (x : α) (hx : A[k]? = some x) : (mixL A B k).set k x = mixL A B (k + 1) := by
  have hk := (List.getElem?_eq_some_iff.1 hx).1
  apply List.ext_getElem?
  intro i
  rw [List.getElem?_set, mixL_at A B h, mixL_at A B h, mixL_length A B h]
  by_cases e : k = i
  · subst e
    rw [if_pos rfl, if_pos (by omega), if_pos (by omega), hx]
  · rw [if_neg e]
    by_cases hi : i < k
    · rw [if_pos hi, if_pos (by omega)]
    · rw [if_neg hi, if_neg (by omega)]
end Go.Proofs.YtffmhcahiabicaaDoor
