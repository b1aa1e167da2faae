/-
  The model's ParsePoly. Condition: a text of at most 1048576 bytes.
-/
import Derived.Test.YtoahialihfijjaaDoorStrI
import Derived.Deep.AppendLies
namespace Go.Proofs.YtoahialihfijjaaDoor
set_option maxRecDepth 4000
open Go.RowKit
/-- What the model reads of a piece. -/
def nvS (x : ByteArray) : Int := (numL x.data.toList).getD 0
theorem numA_form (x : ByteArray) : ∃ b, numA x = .tuple #[.int .i64 (nvS x), .bool b] := by
  unfold numA nvS
  cases numL x.data.toList with
  | none => exact ⟨_, rfl⟩
  | some n => exact ⟨_, rfl⟩
theorem numS_snoc (zs : List Int) (k : Nat) (x : Int) (hx : zs[k]? = some x) : ints (zs.take k) ++ [Value.int .i64 x] = ints (zs.take (k + 1)) := by
  rw [List.take_add_one, hx]
  simp [ints]
theorem apart_grown {lo : Nat} {w1 wr wq w5 : World} {row : Option Nat} (hA : Apart lo (lo + 1) w1 wr) (hb : Below wr.heap.size wr wq) (hg : wq.grownBy w5 row) (hr : ∀ g, row = some g → lo ≤ g ∧ (g < lo + 1 ∨ w1.heap.size ≤ g)) : Apart lo (lo + 1) w1 w5 := by
  have h1 := hA.trans (Apart.of_below hb)
  refine ⟨hg.os.trans h1.os, hg.tape.trans h1.tape, hg.output.trans h1.output, Nat.le_trans h1.size hg.size, fun k hk hd => ?_⟩
  rw [hg.block k (Nat.lt_of_lt_of_le hk h1.size) (fun e => by have := hr k e.symm; omega)]
  exact h1.block k hk hd
theorem ppO_cut (s : ByteArray) : ppO s = ((cutB 32 s).take 8).map nvS := by
  unfold ppO cutB
  rw [← List.map_take, List.map_map]
  rfl
theorem cut_size (c : UInt8) : ∀ l : List UInt8, ∀ x ∈ cutL c l, x.length ≤ l.length
  | [], x, hx => by
    simp [cutL] at hx
    rw [hx]
    exact Nat.le_refl _
  | b :: r, x, hx => by
    by_cases hb : b = c
    · rw [hb, cutL_hit] at hx
      rcases List.mem_cons.1 hx with rfl | hx
      · exact Nat.zero_le _
      · have := cut_size c r x hx
        simp only [List.length_cons]
        omega
    · rw [cutL_miss b c r hb] at hx
      have ih := cut_size c r
      cases hc : cutL c r with
      | nil => exact absurd hc (cutL_ne c r)
      | cons y ys =>
        rw [hc] at hx ih
        simp only [addHead, List.mem_cons] at hx
        rcases hx with rfl | hx
        · have := ih y (by simp)
          simp only [List.length_append, List.length_cons, List.length_nil]
          omega
        · have := ih x (by simp [hx])
          simp only [List.length_cons]
          omega
theorem cut_len (c : UInt8) : ∀ l : List UInt8, (cutL c l).length ≤ l.length + 1
  | [] => by simp [cutL]
  | b :: r => by
    have ih := cut_len c r
    by_cases hb : b = c
    · rw [hb, cutL_hit]
      simp only [List.length_cons]
      omega
    · rw [cutL_miss b c r hb]
      cases hc : cutL c r with
      | nil => exact absurd hc (cutL_ne c r)
      | cons y ys =>
        rw [hc] at ih
        simp only [addHead, List.length_cons] at ih ⊢
        omega
theorem cutB_size (s : ByteArray) : ∀ x ∈ cutB 32 s, x.size ≤ s.size := by
  intro x hx
  unfold cutB at hx
  obtain ⟨l, hl, rfl⟩ := List.mem_map.1 hx
  have := cut_size 32 _ l hl
  rw [size_lenB] at this
  show l.toArray.size ≤ _
  simpa using this
set_option maxHeartbeats 2000000 in
theorem sParsePoly_any (s : ByteArray) (w : World) (hs : s.size ≤ 1048576) : Calls Tryd.prog 13 #[.string s] w (NewRowB (ppA s) (ppB s) w) := by
  obtain ⟨i0, hi0, hz0, hz1, hz2⟩ := info_parts infoInt
  have HO := hidH (World.ownsRow_made (base := w.heap.size) (e := 3) (size := 1) w #[] 0 (Nat.le_refl _) (Nat.zero_le _) rfl)
  have HS := hidH fun W => l9Cut_any s 32 W hs
  have HZ := hidH (cutB_size s)
  have hl0 : (cutB 32 s).length ≤ 1048577 := by
    have := cut_len 32 s.data.toList
    rw [size_lenB] at this
    unfold cutB
    rw [List.length_map]
    omega
  have HPO := hidH (ppO_cut s)
  have HB0 := hidH ((Below.refl w.heap.size w).alloc (Nat.le_refl _) (.cells #[] 3))
  go_enter Tryd.func13, Tryd.ntmps13
  go_wp2_with fail
  refine (HS.out _).mono ?_; rintro e w1 ⟨v1, rfl, hr, hb⟩
  generalize cutB 32 s = qs at *
  obtain ⟨a, cap, rfl, hlc, hcm, hnil, hcell⟩ := hr
  unfold maxLen at hcm
  have HC := hidH hcell
  have HB := hidH (HB0.out.trans (hb.mono HB0.out.size))
  have HW0 := hidH (owns_below HO.out hb)
  clear hcell hnil hb HS HO HB0
  have hs1 := HB.out.size
  have HTL := hidH (show ((qs.take 8).map nvS).length = min 8 qs.length by rw [List.length_map, List.length_take])
  have HLG := hidH (show ∀ (j : Nat) x, j < 8 → qs[j]? = some x → ((qs.take 8).map nvS)[j]? = some (nvS x) by
    intro j x h8 hx
    rw [List.getElem?_map, List.getElem?_take, if_pos h8, hx]
    rfl)
  generalize (qs.take 8).map nvS = L at *
  have hsz0 : w.heap.size + 1 ≤ w1.heap.size := by
    have h := HW0.out
    obtain ⟨_, h | ⟨g, c, cur, e1, _, hh, _⟩⟩ := h
    · exact absurd h.1 (by simp)
    · injection e1 with e1 _ _
      injection e1 with e1
      injection e1 with e1 _ _
      have := (Array.getElem?_eq_some_iff.1 hh).1
      omega
  go_wp2
  go_loopw [4, 6] (fun o i wr => ∃ (k : Nat) (ov : Value), k ≤ qs.length ∧ k ≤ 8 ∧ i = .int .i64 k ∧ ov = o ∧ wr.ownsRow w.heap.size 3 1 ov k (ints (L.take k)) ∧ (∀ g, ov.ownBlock = some g → g < w.heap.size + 1 ∨ w1.heap.size ≤ g) ∧ Apart w.heap.size (w.heap.size + 1) w1 wr) (fun _ i _ => qs.length - (intOf i).toNat)
  case atStart => exact ⟨0, _, Nat.zero_le _, Nat.zero_le _, rfl, rfl, HW0.out, fun g hg => by have h : w.heap.size = g := Option.some.inj hg; left; omega, Apart.of_below (Below.refl _ _)⟩
  case round =>
    obtain ⟨k, ov, hk, hk8, rfl, rfl, hown, hblk, hap⟩ := hrel
    have HW := hidH hown
    have HBK := hidH hblk
    have HAP := hidH hap
    have hsr := HAP.out.size
    clear hown hblk hap HW0
    by_cases hlt : k < qs.length ∧ k < 8
    · obtain ⟨hl1, hl8⟩ := hlt
      obtain ⟨x, hx⟩ := get_lt qs k hl1
      obtain ⟨b, rfl, hb1, hb2, hc, _⟩ := HC.out k x hx
      have hb3 : w.heap.size + 1 ≤ b := by simpa using hb1
      have hcw : wr.cell? ⟨b, k, none⟩ = some (.string x) := by rw [World.cell?_of_block (w := w1) (HAP.out.block b hb2 (by omega))]; exact hc
      have hxs : x.size ≤ 9223372036854775807 := by have := HZ.out x (List.mem_of_getElem? hx); omega
      have HN := hidH fun W => l9Num_any x hxs W
      obtain ⟨bb, hform⟩ := numA_form x
      rw [hform] at HN
      have HSn := hidH (numS_snoc L k (nvS x) (HLG.out k x hl8 hx))
      clear hx hc hform hxs
      generalize nvS x = n at *
      go_wp2_with fail
      refine (HN.out _).mono ?_; rintro e w2 ⟨rfl, rfl⟩
      go_wp2_with (at_builtin; refine wpList_append_lies _ rfl _ _ 23 rfl w.heap.size 3 i0 (.int .i64 0) 1 8 Tryd.underlying23 hi0 hz0 hz1 hz2 rfl (by decide) _ _ _ rfl (HW.out.alloc _) ⟨wr.heap.size, 0, none⟩ 1 1 [.int .i64 n] rfl rfl (news_one wr _ _) (one_one _) (by decide) (by unfold maxLen; omega) (by omega) (by simp; omega) (wr.heap.size + 1) (by simp) ?_)
      intro g5 cap5 w5 hown1 hgrow hat hlt5
      rw [HSn.out] at hown1
      have HN5 := hidH hown1
      have HAN := hidH (apart_grown HAP.out ((Below.refl wr.heap.size wr).alloc (Nat.le_refl _) _) hgrow fun g hg => ⟨(HW.out.lt g hg).1, HBK.out g hg⟩)
      have HBN := hidH (show ∀ g, some g5 = some g → g < w.heap.size + 1 ∨ w1.heap.size ≤ g from fun g hg => by
        have h : g5 = g := Option.some.inj hg
        subst h
        rcases hat with h | h
        · exact HBK.out g5 h
        · right; omega)
      clear hown1 hgrow hat hlt5 HAP HBK HW HSn
      go_wp2
      go_roundw
      case rel => exact ⟨k + 1, _, by omega, by omega, by go_num, rfl, HN5.out, HBN.out, HAN.out⟩
      case measure => simp [intOf]; omega
    · have hkL : L.length ≤ k := by rw [HTL.out]; omega
      have hRow := (row_of_owns HW.out).1
      rw [List.take_of_length_le hkL, ← HPO.out] at hRow
      have HR := hidH hRow
      have HF := hidH (sFormatPoly_any ov (ppO s) wr _ _ hRow.lies)
      have HBw := hidH (HB.out.trans (HAP.out.below (Nat.le_refl _) hs1))
      clear hRow hkL HW HBK HAP
      have hof : ∃ (a2 : Option Addr) (n2 c2 : Nat), ov = .slice a2 n2 c2 := by
        obtain ⟨a2, c2, e, _⟩ := HR.out.lies
        exact ⟨a2, _, c2, e⟩
      have hpb : ppB s = decide (fpB (ppO s) = s) := rfl
      by_cases he : fpB (ppO s) = s
      · have HA1 := hidH (show ppA s = ppO s from ppA_yes s (by rw [hpb]; exact decide_eq_true he))
        have HA2 := hidH (show ppB s = true by rw [hpb]; exact decide_eq_true he)
        rw [he] at HF
        clear he hpb
        generalize ppO s = P at *
        obtain ⟨a2, n2, c2, rfl⟩ := hof
        rcases (show k = qs.length ∨ (k < qs.length ∧ k = 8) by omega) with hq | ⟨hq, hq8⟩
        all_goals
          go_wp2_with fail
          refine HF.out.mono ?_; rintro e w2 ⟨rfl, hb⟩
          have HB2 := hidH (HBw.out.trans (hb.mono HBw.out.size))
          have HR2 := hidH ((HR.out.below hb).mono (Nat.le_refl _) hb.size)
          clear hb
          go_wp2
          go_ret2
          refine ⟨_, by rw [HA2.out]; rfl, ?_, HB2.out⟩
          rw [HA1.out]
          exact HR2.out
      · have HA2 := hidH (show ppB s = false by rw [hpb]; exact decide_eq_false he)
        have HA1 := hidH (ppA_no s HA2.out)
        have b2 := text_ne _ _ he
        clear he hpb
        generalize fpB (ppO s) = t at *
        obtain ⟨a2, n2, c2, rfl⟩ := hof
        rcases (show k = qs.length ∨ (k < qs.length ∧ k = 8) by omega) with hq | ⟨hq, hq8⟩
        all_goals
          go_wp2_with fail
          refine HF.out.mono ?_; rintro e w2 ⟨rfl, hb⟩
          have HB2 := hidH (HBw.out.trans (hb.mono HBw.out.size))
          clear hb
          go_wp2
          go_ret2
          refine ⟨_, by rw [HA2.out]; rfl, ?_, HB2.out.alloc HB2.out.size _⟩
          rw [HA1.out]
          exact Row.nil _ _ _ _ 0 (Nat.zero_le _) (fun _ => rfl)
end Go.Proofs.YtoahialihfijjaaDoor
