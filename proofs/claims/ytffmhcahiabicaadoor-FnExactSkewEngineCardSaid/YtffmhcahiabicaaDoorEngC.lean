/-
  Copies of an engine's columns, the sum and the difference of two columns in the model, and a turn back in its place. Condition: columns of one width.
-/
import Derived.Test.YtffmhcahiabicaaDoorEngA
import Derived.Test.YtffmhcahiabicaaDoorEngMath
import Derived.Test.YtffmhcahiabicaaDoorSsFns
import Derived.Test.YtffmhcahiabicaaDoorColSum
import Derived.Test.YtffmhcahiabicaaDoorEngFns
import Derived.BigRegion
namespace Go.Proofs.YtffmhcahiabicaaDoor
set_option maxRecDepth 4000
set_option linter.unusedVariables false
open Go.RowKit
theorem clS_any (v : Value) (zs : List ByteArray) (w : World) (lo hi : Nat) (hv : LiesS w lo hi v zs) (h0 : 0 < zs.length) (hn : zs.length ≤ 1048576) : Calls Tryd.prog 83 #[v] w (NewTexts zs w) := by
  obtain ⟨b, off, cap, rfl, hlc, hcm, _, _, _, hcell⟩ := hv.addr h0
  clear hv
  obtain ⟨i0, hi, hz0, hz1, hz2⟩ := info_parts infoText
  have q22 : ∀ (w : World) (a : Option Addr) (n c n' c' : Nat), (binOp .eql 22 (.slice a n c) (.slice none n' c')).run Tryd.prog w = .ok (.bool a.isNone) w := fun w a n c n' c' => Lib.run_eql_slice_nil w _ _ a n c n' c' Tryd.underlying22
  have HC := hidH (cells_mapS hcell)
  have HO := hidH (oneCellsS zs)
  clear hcell
  unfold maxLen at hcm
  go_enter Tryd.func83, Tryd.ntmps83
  go_wp2_with (at_builtin; refine wpList_append_own _ rfl _ _ 22 rfl w.heap.size 9 i0 (.string ⟨#[]⟩) 1 16 Tryd.underlying22 hi hz0 hz1 hz2 rfl (by decide) _ _ _ rfl (World.ownsRow_made w #[] 0 (Nat.le_refl _) (Nat.zero_le _) rfl) ⟨b, off, none⟩ zs.length cap (intsS zs) rfl ?qc1 ?qc2 HO.out ?qc4 ?qc5 ?qc6 ?_)
  case qc1 => rw [ints_lengthS, Nat.mul_one]
  case qc2 => exact HC.out _ ((Below.refl _ _).alloc (Nat.le_refl _) _)
  case qc4 => unfold maxLen; omega
  case qc5 => omega
  case qc6 => simp
  intro v' w1 hown hgrow hnil
  have HR := hidH hown
  have HG := hidH hgrow
  clear hown hgrow hnil
  go_wp2
  go_ret
  exact ⟨v', rfl, (row_of_ownsS HR.out).1, ((Below.refl _ w).alloc (Nat.le_refl _) _).grown HG.out (by simp) (by intro k hk; simp [Value.ownBlock] at hk; omega)⟩
theorem l3Copy_any (v : Value) (zs : List ByteArray) (w : World) (lo hi : Nat) (hv : LiesS w lo hi v zs) (h0 : 0 < zs.length) (hn : zs.length ≤ 1048576) : Calls Tryd.prog 78 #[.agg #[v]] w (NewEng zs w) := by
  obtain ⟨b, off, cap, rfl, hlc, hcm, _, _, hbw, hcell⟩ := hv.addr h0
  clear hv
  obtain ⟨i0, hi, hz0, hz1, hz2⟩ := info_parts infoText
  have HC := hidH (cells_mapS hcell)
  have HO := hidH (oneCellsS zs)
  clear hcell
  unfold maxLen at hcm
  have BB := hidH (bMore (belowN' w (.slice (some ⟨b, off, none⟩) zs.length cap)) (.cells #[.slice none 0 0] 26))
  have E1 := hidH (((EngAt.fresh w (.slice (some ⟨b, off, none⟩) zs.length cap)).alloc (.cells #[.slice none 0 0] 26)).alloc (.cells #[] 9))
  have E2 := hidH ((EngAt.newAt (w.alloc (.cells #[.slice (some ⟨b, off, none⟩) zs.length cap] 26)) (.slice none 0 0) (w.heap.size + 1) (by simp)).alloc (.cells #[] 9))
  have hsz : ((w.alloc (.cells #[.slice (some ⟨b, off, none⟩) zs.length cap] 26)).alloc (.cells #[.slice none 0 0] 26)).heap.size = w.heap.size + 1 + 1 := by simp
  have OW0 := hidH (World.ownsRow_made (base := w.heap.size + 1 + 1) (size := 1) (e := 9) ((w.alloc (.cells #[.slice (some ⟨b, off, none⟩) zs.length cap] 26)).alloc (.cells #[.slice none 0 0] 26)) #[] 0 (by simp) (by decide) rfl)
  rw [hsz] at OW0
  clear hsz
  have cA := E1.out.cell
  have HB3 := hidH (bMore BB.out (.cells #[] 9))
  go_enter Tryd.func78, Tryd.ntmps78
  go_wp2_with (at_builtin; refine wpList_append_own _ rfl _ _ 22 rfl (w.heap.size + 1 + 1) 9 i0 (.string ⟨#[]⟩) 1 16 Tryd.underlying22 hi hz0 hz1 hz2 rfl (by decide) _ _ _ rfl OW0.out ⟨b, off, none⟩ zs.length cap (intsS zs) rfl ?qc1 ?qc2 HO.out ?qc4 ?qc5 ?qc6 ?_)
  case qc1 => rw [ints_lengthS, Nat.mul_one]
  case qc2 => exact HC.out _ HB3.out
  case qc4 => unfold maxLen; omega
  case qc5 => omega
  case qc6 => simp
  intro v' w1 hown hgrow hnil
  have HR := hidH hown
  have hB := (Below.refl (w.heap.size + 1 + 1) (((w.alloc (.cells #[.slice (some ⟨b, off, none⟩) zs.length cap] 26)).alloc (.cells #[.slice none 0 0] 26)).alloc (.cells #[] 9))).grown hgrow (by simp) (by intro k hk; simp [Value.ownBlock] at hk; omega)
  have F2 := hidH (E2.out.lowB hB (Nat.lt_succ_self _))
  have HBB := hidH (HB3.out.trans (hB.mono (by omega)))
  clear hown hgrow hnil cA hB
  have HRR := hidH (row_of_ownsS HR.out).1
  obtain ⟨a', cap', rfl⟩ := HRR.out.some
  have SZ := hidH (eng_size (.slice a' zs.length cap'))
  have SO := hidH (slice_one a' zs.length cap')
  go_wp2_with (refine wpList_store_row rfl 26 _ _ rfl (w.heap.size + 1) #[.slice a' zs.length cap'] rfl rfl 26 _ F2.out SZ.out rfl SO.out ?_)
  refine bodyPost_ret (results_eng Tryd.results78 _ _ (w.heap.size + 1) _ rfl (F2.out.setRow _)) rfl ?_
  exact ⟨_, rfl, (HRR.out.apart (Apart.of_onto (lo := w.heap.size + 1) (hi := w.heap.size + 2) (onto_setRow (w.heap.size + 1) _ _) (by omega) (by omega)) (.inr (Nat.le_refl _))).mono (by omega) (by simp), bRow HBB.out (by omega) _⟩
/-- A width and a column of it. -/
def colN (n : Nat) (c : ByteArray) : Prop := ok c = true ∧ c.size = n
theorem colN_dif (n : Nat) (c d : ByteArray) (hc : colN n c) (_ : colN n d) : colN n (difS c d) := ⟨difS_ok c d hc.1, by rw [difS_size]; exact hc.2⟩
theorem colN_sum (n : Nat) (c d : ByteArray) (hc : colN n c) (_ : colN n d) : colN n (sumS c d) := ⟨sumS_ok c d hc.1, by rw [sumS_size]; exact hc.2⟩
theorem l3Minus_any (n : Nat) (a b : ByteArray) (ha : colN n a) (hb : colN n b) (w : World) : Calls Tryd.prog 133 #[.string a, .string b] w (Gives (.string (difS a b)) w) := by
  have V1 := hidH (fun W => l1Value_any a ha.1 W)
  have V2 := hidH (fun W => l1Value_any b hb.1 W)
  have ⟨x0, x1, x2, x3, x4⟩ := valS_bd a ha.1
  have ⟨y0, y1, y2, y3, y4⟩ := valS_bd b hb.1
  have HS := hidH (fun W => sShow_any (valS a - valS b) a.size x3 W)
  have HD := hidH (show difS a b = ⟨(showB (valS a - valS b) a.size).toArray⟩ from rfl)
  have b1 : valS a ≤ 1000000000000 := by omega
  have b2 : valS b ≤ 1000000000000 := by omega
  clear ha hb x1 x4 y1 y4
  generalize valS a = p at *
  generalize valS b = q at *
  go_enter Tryd.func133, Tryd.ntmps133
  go_wp2_with fail
  refine (V1.out _).mono ?_; rintro e w1 ⟨rfl, rfl⟩
  go_wp2_with fail
  refine (V2.out _).mono ?_; rintro e w1 ⟨rfl, rfl⟩
  go_wp2_with fail
  refine (HS.out _).mono ?_; rintro e w1 ⟨rfl, hb⟩
  have HB := hidH hb
  clear hb
  go_wp2
  go_ret
  exact ⟨by rw [HD.out]; rfl, HB.out⟩
theorem l3Plus_any (n : Nat) (a b : ByteArray) (ha : colN n a) (hb : colN n b) (w : World) : Calls Tryd.prog 132 #[.string a, .string b] w (Gives (.string (sumS a b)) w) := by
  have V1 := hidH (fun W => l1Value_any a ha.1 W)
  have V2 := hidH (fun W => l1Value_any b hb.1 W)
  have ⟨x0, x1, x2, x3, x4⟩ := valS_bd a ha.1
  have ⟨y0, y1, y2, y3, y4⟩ := valS_bd b hb.1
  have HS := hidH (fun W => sShow_any (valS a + valS b) a.size x3 W)
  have HD := hidH (show sumS a b = ⟨(showB (valS a + valS b) a.size).toArray⟩ from rfl)
  have b1 : valS a ≤ 1000000000000 := by omega
  have b2 : valS b ≤ 1000000000000 := by omega
  clear ha hb x1 x4 y1 y4
  generalize valS a = p at *
  generalize valS b = q at *
  go_enter Tryd.func132, Tryd.ntmps132
  go_wp2_with fail
  refine (V1.out _).mono ?_; rintro e w1 ⟨rfl, rfl⟩
  go_wp2_with fail
  refine (V2.out _).mono ?_; rintro e w1 ⟨rfl, rfl⟩
  go_wp2_with fail
  refine (HS.out _).mono ?_; rintro e w1 ⟨rfl, hb⟩
  have HB := hidH hb
  clear hb
  go_wp2
  go_ret
  exact ⟨by rw [HD.out]; rfl, HB.out⟩
end Go.Proofs.YtffmhcahiabicaaDoor
