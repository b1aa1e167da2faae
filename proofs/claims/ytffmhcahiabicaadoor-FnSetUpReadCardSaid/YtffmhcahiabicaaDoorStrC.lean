/-
  The model's cutting of a text at each byte c. Condition: a text of at most 1048576 bytes.
-/
import Derived.Test.YtffmhcahiabicaaDoorStrMath
import Derived.Test.YtffmhcahiabicaaDoorStrB
import Derived.Test.YtffmhcahiabicaaDoorSs
import Derived.Test.YtffmhcahiabicaaDoorSl
namespace Go.Proofs.YtffmhcahiabicaaDoor
set_option maxRecDepth 4000
open Go.RowKit
/-- A call that answers a new row of texts. -/
def NewRowS (zs : List ByteArray) (w : World) (e : Ending) (w' : World) : Prop := ∃ v, e = .returned v ∧ RowS w' w.heap.size w'.heap.size v zs ∧ Below w.heap.size w w'
/-- The pieces of a text. -/
def cutB (c : UInt8) (s : ByteArray) : List ByteArray := (cutL c s.data.toList).map fun l => ⟨l.toArray⟩
theorem infoStrC : (Tryd.prog.info? 9).map (fun i => (i.zero, i.size, i.bytes)) = some (some (.string ⟨#[]⟩), 1, 16) := by kernel_rfl
theorem extract_list (s : ByteArray) (f k : Nat) (_ : f ≤ k) : (s.extract f k).data.toList = (s.data.toList.take k).drop f := by
  rw [ByteArray.data_extract, Array.toList_extract]
  simp only [List.extract, List.drop_take]
/-- How far the cutting has come: at k, with a piece begun at f. -/
def CutAt (c : UInt8) (s : ByteArray) (k f : Nat) (done : List ByteArray) : Prop :=
  f ≤ k ∧ done.length ≤ k ∧ (k ≤ s.size → cutL c s.data.toList = done.map (·.data.toList) ++ addHead ((s.data.toList.take k).drop f) (cutL c (s.data.toList.drop k))) ∧ (s.size < k → cutL c s.data.toList = done.map (·.data.toList))
theorem cutAt_zero (c : UInt8) (s : ByteArray) : CutAt c s 0 0 [] := ⟨Nat.le_refl _, Nat.le_refl _, fun _ => by simp [addHead_nil _ (cutL_ne _ _)], fun h => absurd h (by omega)⟩
theorem cutAt_end (c : UInt8) (s : ByteArray) (f : Nat) (done : List ByteArray) (h : CutAt c s s.size f done) : CutAt c s (s.size + 1) (s.size + 1) (done ++ [s.extract f s.size]) := by
  obtain ⟨h1, h2, h3, _⟩ := h
  refine ⟨Nat.le_refl _, by simp; omega, fun h => absurd h (by omega), fun _ => ?_⟩
  rw [h3 (Nat.le_refl _), List.map_append, List.map_cons, List.map_nil, extract_list s f s.size h1]
  rw [List.drop_of_length_le (l := s.data.toList) (by rw [size_lenB]; exact Nat.le_refl _)]
  simp [cutL, addHead]
theorem drop_at (s : ByteArray) (k : Nat) (h : k < s.size) : s.data.toList.drop k = s[k] :: s.data.toList.drop (k + 1) := by
  rw [List.drop_eq_getElem_cons (by rw [size_lenB]; exact h)]
  rfl
theorem cutAt_hit (c : UInt8) (s : ByteArray) (k f : Nat) (done : List ByteArray) (h : CutAt c s k f done) (hk : k < s.size) (hc : s[k] = c) : CutAt c s (k + 1) (k + 1) (done ++ [s.extract f k]) := by
  obtain ⟨h1, h2, h3, _⟩ := h
  refine ⟨Nat.le_refl _, by simp; omega, fun _ => ?_, fun h => absurd h (by omega)⟩
  rw [h3 (by omega), drop_at s k hk, hc, cutL_hit, List.map_append, List.map_cons, List.map_nil, extract_list s f k h1]
  rw [List.drop_of_length_le (l := s.data.toList.take (k + 1)) (by rw [List.length_take]; omega), addHead_nil _ (cutL_ne _ _)]
  simp [addHead]
theorem cutAt_miss (c : UInt8) (s : ByteArray) (k f : Nat) (done : List ByteArray) (h : CutAt c s k f done) (hk : k < s.size) (hc : s[k] ≠ c) : CutAt c s (k + 1) f done := by
  obtain ⟨h1, h2, h3, _⟩ := h
  refine ⟨by omega, by omega, fun _ => ?_, fun h => absurd h (by omega)⟩
  rw [h3 (by omega), drop_at s k hk, cutL_miss _ _ _ hc, addHead_add _ _ _ (cutL_ne _ _), take_moreB s k hk]
  rw [List.drop_append_of_le_length (by rw [List.length_take, size_lenB]; omega)]
theorem ints_snocS (done : List ByteArray) (x : ByteArray) : intsS done ++ [Value.string x] = intsS (done ++ [x]) := by simp [intsS]
set_option maxHeartbeats 1000000 in
theorem l9Cut_any (s : ByteArray) (c : UInt8) (w : World) (hs : s.size ≤ 1048576) : Calls Tryd.prog 48 #[.string s, .int .u8 (c.toNat : Int)] w (NewRowS (cutB c s) w) := by
  obtain ⟨i0, hi0, hz0, hz1, hz2⟩ := info_parts infoStrC
  have HO := hidH (World.ownsRow_made (base := w.heap.size) (e := 9) (size := 1) w #[] 0 (Nat.le_refl _) (Nat.zero_le _) rfl)
  have HC0 := hidH (cutAt_zero c s)
  go_enter Tryd.func48, Tryd.ntmps48
  go_wp2
  go_loopw [5, 6, 7] (fun o fr i wr => ∃ (k f : Nat) (ov : Value) (done : List ByteArray), k ≤ s.size + 1 ∧ i = .int .i64 k ∧ fr = .int .i64 f ∧ ov = o ∧ CutAt c s k f done ∧ wr.ownsRow w.heap.size 9 1 ov done.length (intsS done) ∧ Below w.heap.size w wr) (fun _ _ i _ => s.size + 1 - (intOf i).toNat)
  case atStart => exact ⟨0, 0, _, [], Nat.zero_le _, rfl, rfl, rfl, HC0.out, HO.out, (Below.refl _ _).alloc (Nat.le_refl _) _⟩
  case round =>
    obtain ⟨k, f, ov, done, hk, rfl, rfl, rfl, hcut, hown, hb⟩ := hrel
    have HCA := hidH hcut
    have HW := hidH hown
    have HB := hidH hb
    have hfk := hcut.1
    have hdl := hcut.2.1
    have hsz := HB.out.size
    clear hcut hown hb HC0 HO
    by_cases hend : s.size < k
    · obtain rfl : k = s.size + 1 := by omega
      go_wp2
      go_ret
      have e : done = cutB c s := by
        unfold cutB
        rw [HCA.out.2.2.2 (by omega), List.map_map]
        exact (List.map_id' _).symm
      have h := HW.out
      exact ⟨ov, rfl, by rw [← e]; exact (row_of_ownsS h).1, HB.out⟩
    · by_cases hke : k = s.size
      · subst hke
        have HCN := hidH (cutAt_end c s f done HCA.out)
        have HS := hidH (ints_snocS done (s.extract f s.size))
        go_wp2_with (at_builtin; refine wpList_append_own _ rfl _ _ 22 rfl w.heap.size 9 i0 (.string ⟨#[]⟩) 1 16 Tryd.underlying22 hi0 hz0 hz1 hz2 rfl (by decide) _ _ _ rfl (HW.out.alloc _) ⟨wr.heap.size, 0, none⟩ 1 1 [.string (s.extract f s.size)] rfl rfl (news_oneS wr _ _) (one_oneS _) (by unfold maxLen; omega) (by omega) (by simp; omega) ?_)
        intro v' w5 hown1 hgrow _
        have HBL := hidH (((Below.refl _ wr).alloc hsz _).grown hgrow (by simp; omega) fun g hg => (HW.out.lt g hg).1 : Below w.heap.size wr w5)
        rw [HS.out] at hown1
        have HN := hidH hown1
        clear hown1 hgrow
        go_wp2
        go_roundw
        case rel => exact ⟨s.size + 1, s.size + 1, v', _, by omega, by go_num, by go_num, rfl, HCN.out, by rw [List.length_append]; exact HN.out, HB.out.trans HBL.out⟩
        case measure => simp [intOf]
      · have hlt : k < s.size := by omega
        by_cases hc : s[k] = c
        · have HCN := hidH (cutAt_hit c s k f done HCA.out hlt hc)
          have HS := hidH (ints_snocS done (s.extract f k))
          have hcb : ((s[k].toNat : Int) == (c.toNat : Int)) = true := by rw [hc]; simp
          clear hc
          go_wp2_with (at_builtin; refine wpList_append_own _ rfl _ _ 22 rfl w.heap.size 9 i0 (.string ⟨#[]⟩) 1 16 Tryd.underlying22 hi0 hz0 hz1 hz2 rfl (by decide) _ _ _ rfl (HW.out.alloc _) ⟨wr.heap.size, 0, none⟩ 1 1 [.string (s.extract f k)] rfl rfl (news_oneS wr _ _) (one_oneS _) (by unfold maxLen; omega) (by omega) (by simp; omega) ?_)
          intro v' w5 hown1 hgrow _
          have HBL := hidH (((Below.refl _ wr).alloc hsz _).grown hgrow (by simp; omega) fun g hg => (HW.out.lt g hg).1 : Below w.heap.size wr w5)
          rw [HS.out] at hown1
          have HN := hidH hown1
          clear hown1 hgrow
          go_wp2
          go_roundw
          case rel => exact ⟨k + 1, k + 1, v', _, by omega, by go_num, by go_num, rfl, HCN.out, by rw [List.length_append]; exact HN.out, HB.out.trans HBL.out⟩
          case measure => simp [intOf]; omega
        · have HCN := hidH (cutAt_miss c s k f done HCA.out hlt hc)
          have hcb : ((s[k].toNat : Int) == (c.toNat : Int)) = false := beq_eq_false_iff_ne.2 fun e => hc (UInt8.toNat_inj.1 (by omega))
          clear hc
          go_wp2
          go_roundw
          case rel => exact ⟨k + 1, f, ov, done, by omega, by go_num, rfl, rfl, HCN.out, HW.out, HB.out⟩
          case measure => simp [intOf]; omega
end Go.Proofs.YtffmhcahiabicaaDoor
