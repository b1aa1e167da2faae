/-
  Draws of lines. No conditions but what a reader asks.
-/
import Derived.Test.YtgafhkjcdddhcaaDoorLnzC
import Derived.Test.YtgafhkjcdddhcaaDoorKitC
import Derived.Test.YtgafhkjcdddhcaaDoorKitP
namespace Go.Proofs.YtgafhkjcdddhcaaDoor
set_option maxRecDepth 4000
open Go.RowKit
/-- The words of the model's draw of lines. -/
def wordL : List ByteArray := [⟨#[49, 50]⟩, ⟨#[49, 32, 50]⟩, ⟨#[]⟩, ⟨#[120]⟩, ⟨#[45, 52, 53, 32, 55]⟩, ⟨#[126]⟩]
theorem wordL_size {z : ByteArray} (h : z ∈ wordL) : z.size ≤ 5 := by
  have q : wordL.all (fun z => decide (z.size ≤ 5)) = true := by decide
  exact of_decide_eq_true (List.all_eq_true.1 q z h)
/-- Drawn texts: at most m of at most s bytes. -/
def DrawT (m s d : Nat) (r B : Nat) (w : World) (e : Ending) (w' : World) : Prop := ∃ v zs, e = .returned v ∧ RowS w' w.heap.size w'.heap.size v zs ∧ zs.length ≤ m ∧ (∀ z ∈ zs, z.size ≤ s) ∧ Rd w' r (B + d) ∧ Onto r w w'
set_option maxHeartbeats 1600000 in
theorem words_any (r B : Nat) (w : World) (h : Rd w r B) (hB : B ≤ 850000) : Calls Tryd.prog 59 #[.pointer (some ⟨r, 0, none⟩)] w (DrawT 6 10 20 r B w) := by
  obtain ⟨i0, hi0, hz0, hz1, hz2⟩ := info_parts infoText
  have HO := hidH (World.ownsRow_made (base := w.heap.size) (e := 9) (size := 1) w #[] 0 (Nat.le_refl _) (Nat.zero_le _) rfl)
  have hrlt := h.lt
  have HP := hidH (pick_any 6 r B (w.alloc (.cells #[] 9)) (h.onto ((Below.refl _ _).alloc (Nat.le_refl _) _)) (by omega))
  clear h
  go_enter Tryd.func59, Tryd.ntmps59
  go_wp2_with fail
  refine HP.out.mono ?_
  rintro e w1 ⟨x, rfl, x0, x1, hR, hO⟩
  have hx := x1 (by omega)
  obtain ⟨n, rfl⟩ := Int.eq_ofNat_of_zero_le x0
  have HR := hidH hR
  have OW := hidH (owns_onto HO.out hO hrlt)
  have HOO := hidH (((Onto.refl r w).alloc _).trans hO)
  clear hR hO x1 HP HO x0
  go_wp2_with fail
  go_loopw [3, 4] (fun o i wr => ∃ (k : Nat) (ov : Value) (zs : List ByteArray), k ≤ n ∧ i = .int .i64 k ∧ ov = o ∧ zs.length + k = n ∧ (∀ z ∈ zs, z.size ≤ 10) ∧ wr.ownsRow w.heap.size 9 1 ov zs.length (intsS zs) ∧ Rd wr r (B + 1 + 2 * zs.length) ∧ Onto r w wr) (fun _ i _ => (intOf i).toNat)
  case atStart => exact ⟨n, _, [], Nat.le_refl _, rfl, rfl, by simp, (fun z h => by simp at h), OW.out, HR.out, HOO.out⟩
  case round =>
    obtain ⟨k, ov, zs, hk, rfl, rfl, hlen, hall, hown, hr, ho⟩ := hrel
    have HW := hidH hown
    have H1 := hidH hr
    have O1 := hidH ho
    have HA := hidH hall
    have hsz := ho.size
    clear hown hr ho hall OW HR HOO
    by_cases h0 : 0 < k
    · have HP := hidH (pick_any 3 r _ wr H1.out (by omega))
      go_wp2_with fail
      refine HP.out.mono ?_
      rintro e w2 ⟨x, rfl, x0, x1, hR, hO⟩
      have hx3 := x1 (by omega)
      obtain ⟨q, rfl⟩ := Int.eq_ofNat_of_zero_le x0
      have H2 := hidH hR
      have W2 := hidH (owns_onto HW.out hO hrlt)
      have O2 := hidH (O1.out.trans hO)
      have hsz2 := hO.size
      clear hR hO x1 HP HW H1 O1 x0
      have hq : q ≤ 2 := by omega
      have HMS := hidH (fun W => many_sp q (by omega) W)
      go_wp2_with fail
      refine (HMS.out _).mono ?_
      rintro e w3 ⟨rfl, hww⟩
      rw [hww]
      clear hww
      have H3 := hidH (H2.out.onto ((Below.refl _ w2).alloc (Nat.le_refl _) (.cells (strC wordL) 9)))
      have HF := hidH (of_any w2.heap.size 0 wordL r _ (w2.alloc (.cells (strC wordL) 9)) H3.out (by omega) (by decide) (by decide) (strs_new _ _ _ _ H2.out.lt))
      have W3 := hidH (W2.out.alloc (.cells (strC wordL) 9))
      go_wp2_with fail
      refine HF.out.mono ?_
      rintro e w4 ⟨z, hz, rfl, hR, hO⟩
      have hz5 := wordL_size hz
      have H4 := hidH hR
      have W4 := hidH (owns_onto W3.out hO hrlt)
      have O4 := hidH ((O2.out.alloc (.cells (strC wordL) 9)).trans hO)
      have hsz4 := hO.size
      have hsz5 : w2.heap.size + 1 ≤ w4.heap.size := by simpa using hsz4
      clear hR hO HF W2 W3 H2 H3 O2 hz
      have hsp := spB_size q
      have hzs : (spB q ++ z).size ≤ 10 := by rw [ByteArray.size_append]; omega
      have hlt6 : zs.length < 6 := by omega
      have HS := hidH (ints_snocS' zs (spB q ++ z))
      have HA2 := hidH (show ∀ y ∈ zs ++ [spB q ++ z], y.size ≤ 10 from fun y hy => by
        rcases List.mem_append.1 hy with h | h
        · exact HA.out y h
        · rw [List.mem_singleton.1 h]; exact hzs)
      go_wp2_with (at_builtin; refine wpList_append_own _ rfl _ _ 30 rfl w.heap.size 9 i0 (.string ⟨#[]⟩) 1 16 Tryd.underlying30 hi0 hz0 hz1 hz2 rfl (by decide) _ _ _ rfl (W4.out.alloc _) ⟨w4.heap.size, 0, none⟩ 1 1 [.string (spB q ++ z)] rfl rfl (news_oneS w4 _ _) (one_oneS _) (by unfold maxLen; omega) (by omega) (by simp; omega) ?_)
      intro v' w5 hown1 hgrow _
      have HBL := hidH (((Below.refl _ w4).alloc (show w.heap.size ≤ w4.heap.size by omega) _).grown hgrow (by simp; omega) fun g hg => (W4.out.lt g hg).1 : Below w.heap.size w4 w5)
      rw [HS.out] at hown1
      have HN := hidH hown1
      have H5 := hidH (H4.out.low (HBL.out.mono (show r + 1 ≤ w.heap.size by omega)))
      clear hown1 hgrow
      go_wp2
      go_roundw
      case rel => exact ⟨k - 1, v', zs ++ [spB q ++ z], by omega, by first | go_num | (congr 1; omega), rfl, by rw [List.length_append]; simp; omega, HA2.out, by rw [List.length_append]; exact HN.out, H5.out.more (by rw [List.length_append]; simp; omega), ((O4.out.toB (Nat.le_refl _)).trans (OntoB.of_below HBL.out)).onto⟩
      case measure => simp [intOf]; omega
    · obtain rfl : k = 0 := by omega
      go_wp2
      go_ret
      exact ⟨ov, zs, rfl, (row_of_ownsS HW.out).1, by omega, HA.out, H1.out.more (by omega), O1.out⟩
end Go.Proofs.YtgafhkjcdddhcaaDoor
