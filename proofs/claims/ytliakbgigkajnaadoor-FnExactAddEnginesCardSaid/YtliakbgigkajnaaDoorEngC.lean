/-
  Copies of an engine's columns, the sum and the difference of two columns in the model, and a turn back in its place. Condition: columns of one width.
  A turn back: the program's, in the columns' place, and the model's. Condition: columns of one width.
-/
import Derived.Test.YtliakbgigkajnaaDoorEngA
import Derived.Test.YtliakbgigkajnaaDoorMath
import Derived.Test.YtliakbgigkajnaaDoorSs
import Derived.Test.YtliakbgigkajnaaDoorMathD
import Derived.Test.YtliakbgigkajnaaDoorEngBox
import Derived.BigRegion
import Derived.Deep.RegionWith
namespace Go.Proofs.YtliakbgigkajnaaDoor
set_option maxRecDepth 4000
set_option linter.unusedVariables false
open Go.RowKit
theorem clS_any (v : Value) (zs : List ByteArray) (w : World) (lo hi : Nat) (hv : LiesS w lo hi v zs) (h0 : 0 < zs.length) (hn : zs.length ≤ 1048576) : Calls Tryd.prog 65 #[v] w (NewTexts zs w) := by
  obtain ⟨b, off, cap, rfl, hlc, hcm, _, _, _, hcell⟩ := hv.addr h0
  clear hv
  obtain ⟨i0, hi, hz0, hz1, hz2⟩ := info_parts infoText
  have q22 : ∀ (w : World) (a : Option Addr) (n c n' c' : Nat), (binOp .eql 22 (.slice a n c) (.slice none n' c')).run Tryd.prog w = .ok (.bool a.isNone) w := fun w a n c n' c' => Lib.run_eql_slice_nil w _ _ a n c n' c' Tryd.underlying22
  have HC := hidH (cells_mapS hcell)
  have HO := hidH (oneCellsS zs)
  clear hcell
  unfold maxLen at hcm
  go_enter Tryd.func65, Tryd.ntmps65
  go_wp2_with (at_builtin; refine wpList_append_own _ rfl _ _ 22 rfl w.heap.size 9 i0 (.string ⟨#[]⟩) 1 16 Tryd.underlying22 hi hz0 hz1 hz2 rfl (by decide) _ _ _ rfl (World.ownsRow_made w #[] 0 (Nat.le_refl _) (Nat.zero_le _) rfl) ⟨b, off, none⟩ zs.length cap (intsS zs) rfl ?qc1 ?qc2 HO.out ?qc4 ?qc5 ?qc6 ?_)
  case qc1 => rw [ints_lengthS, Nat.mul_one]
  case qc2 => exact HC.out _ ((Below.refl _ _).alloc (Nat.le_refl _) _)
  case qc4 => unfold maxLen; omega
  case qc5 => omega
  case qc6 => simp
  intro v' w1 hown hgrow hnil
  have HR := hidH hown
  have HG := hidH hgrow
  clear hown hgrow hnil
  go_wp2
  go_ret
  exact ⟨v', rfl, (row_of_ownsS HR.out).1, ((Below.refl _ w).alloc (Nat.le_refl _) _).grown HG.out (by simp) (by intro k hk; simp [Value.ownBlock] at hk; omega)⟩
theorem l3Copy_any (v : Value) (zs : List ByteArray) (w : World) (lo hi : Nat) (hv : LiesS w lo hi v zs) (h0 : 0 < zs.length) (hn : zs.length ≤ 1048576) : Calls Tryd.prog 46 #[.agg #[v]] w (NewEng zs w) := by
  obtain ⟨b, off, cap, rfl, hlc, hcm, _, _, hbw, hcell⟩ := hv.addr h0
  clear hv
  obtain ⟨i0, hi, hz0, hz1, hz2⟩ := info_parts infoText
  have HC := hidH (cells_mapS hcell)
  have HO := hidH (oneCellsS zs)
  clear hcell
  unfold maxLen at hcm
  have BB := hidH (bMore (belowN' w (.slice (some ⟨b, off, none⟩) zs.length cap)) (.cells #[.slice none 0 0] 27))
  have E1 := hidH (((EngAt.fresh w (.slice (some ⟨b, off, none⟩) zs.length cap)).alloc (.cells #[.slice none 0 0] 27)).alloc (.cells #[] 9))
  have E2 := hidH ((EngAt.newAt (w.alloc (.cells #[.slice (some ⟨b, off, none⟩) zs.length cap] 27)) (.slice none 0 0) (w.heap.size + 1) (by simp)).alloc (.cells #[] 9))
  have hsz : ((w.alloc (.cells #[.slice (some ⟨b, off, none⟩) zs.length cap] 27)).alloc (.cells #[.slice none 0 0] 27)).heap.size = w.heap.size + 1 + 1 := by simp
  have OW0 := hidH (World.ownsRow_made (base := w.heap.size + 1 + 1) (size := 1) (e := 9) ((w.alloc (.cells #[.slice (some ⟨b, off, none⟩) zs.length cap] 27)).alloc (.cells #[.slice none 0 0] 27)) #[] 0 (by simp) (by decide) rfl)
  rw [hsz] at OW0
  clear hsz
  have cA := E1.out.cell
  have HB3 := hidH (bMore BB.out (.cells #[] 9))
  go_enter Tryd.func46, Tryd.ntmps46
  go_wp2_with (at_builtin; refine wpList_append_own _ rfl _ _ 22 rfl (w.heap.size + 1 + 1) 9 i0 (.string ⟨#[]⟩) 1 16 Tryd.underlying22 hi hz0 hz1 hz2 rfl (by decide) _ _ _ rfl OW0.out ⟨b, off, none⟩ zs.length cap (intsS zs) rfl ?qc1 ?qc2 HO.out ?qc4 ?qc5 ?qc6 ?_)
  case qc1 => rw [ints_lengthS, Nat.mul_one]
  case qc2 => exact HC.out _ HB3.out
  case qc4 => unfold maxLen; omega
  case qc5 => omega
  case qc6 => simp
  intro v' w1 hown hgrow hnil
  have HR := hidH hown
  have hB := (Below.refl (w.heap.size + 1 + 1) (((w.alloc (.cells #[.slice (some ⟨b, off, none⟩) zs.length cap] 27)).alloc (.cells #[.slice none 0 0] 27)).alloc (.cells #[] 9))).grown hgrow (by simp) (by intro k hk; simp [Value.ownBlock] at hk; omega)
  have F2 := hidH (E2.out.lowB hB (Nat.lt_succ_self _))
  have HBB := hidH (HB3.out.trans (hB.mono (by omega)))
  clear hown hgrow hnil cA hB
  have HRR := hidH (row_of_ownsS HR.out).1
  obtain ⟨a', cap', rfl⟩ := HRR.out.some
  have SZ := hidH (eng_size (.slice a' zs.length cap'))
  have SO := hidH (slice_one a' zs.length cap')
  go_wp2_with (refine wpList_store_row rfl 27 _ _ rfl (w.heap.size + 1) #[.slice a' zs.length cap'] rfl rfl 27 _ F2.out SZ.out rfl SO.out ?_)
  refine bodyPost_ret (results_eng Tryd.results46 _ _ (w.heap.size + 1) _ rfl (F2.out.setRow _)) rfl ?_
  exact ⟨_, rfl, (HRR.out.apart (Apart.of_onto (lo := w.heap.size + 1) (hi := w.heap.size + 2) (onto_setRow (w.heap.size + 1) _ _) (by omega) (by omega)) (.inr (Nat.le_refl _))).mono (by omega) (by simp), bRow HBB.out (by omega) _⟩
/-- A width and a column of it. -/
def colN (n : Nat) (c : ByteArray) : Prop := ok c = true ∧ c.size = n
theorem colN_dif (n : Nat) (c d : ByteArray) (hc : colN n c) (_ : colN n d) : colN n (difS c d) := ⟨difS_ok c d hc.1, by rw [difS_size]; exact hc.2⟩
theorem colN_sum (n : Nat) (c d : ByteArray) (hc : colN n c) (_ : colN n d) : colN n (sumS c d) := ⟨sumS_ok c d hc.1, by rw [sumS_size]; exact hc.2⟩
theorem l3Minus_any (n : Nat) (a b : ByteArray) (ha : colN n a) (hb : colN n b) (w : World) : Calls Tryd.prog 64 #[.string a, .string b] w (Gives (.string (difS a b)) w) := by
  have V1 := hidH (fun W => l1Value_any a ha.1 W)
  have V2 := hidH (fun W => l1Value_any b hb.1 W)
  have ⟨x0, x1, x2, x3, x4⟩ := valS_bd a ha.1
  have ⟨y0, y1, y2, y3, y4⟩ := valS_bd b hb.1
  have HS := hidH (fun W => sShow_any (valS a - valS b) a.size x3 W)
  have HD := hidH (show difS a b = ⟨(showB (valS a - valS b) a.size).toArray⟩ from rfl)
  have b1 : valS a ≤ 1000000000000 := by omega
  have b2 : valS b ≤ 1000000000000 := by omega
  clear ha hb x1 x4 y1 y4
  generalize valS a = p at *
  generalize valS b = q at *
  go_enter Tryd.func64, Tryd.ntmps64
  go_wp2_with fail
  refine (V1.out _).mono ?_; rintro e w1 ⟨rfl, rfl⟩
  go_wp2_with fail
  refine (V2.out _).mono ?_; rintro e w1 ⟨rfl, rfl⟩
  go_wp2_with fail
  refine (HS.out _).mono ?_; rintro e w1 ⟨rfl, hb⟩
  have HB := hidH hb
  clear hb
  go_wp2
  go_ret
  exact ⟨by rw [HD.out]; rfl, HB.out⟩
theorem l3Plus_any (n : Nat) (a b : ByteArray) (ha : colN n a) (hb : colN n b) (w : World) : Calls Tryd.prog 47 #[.string a, .string b] w (Gives (.string (sumS a b)) w) := by
  have V1 := hidH (fun W => l1Value_any a ha.1 W)
  have V2 := hidH (fun W => l1Value_any b hb.1 W)
  have ⟨x0, x1, x2, x3, x4⟩ := valS_bd a ha.1
  have ⟨y0, y1, y2, y3, y4⟩ := valS_bd b hb.1
  have HS := hidH (fun W => sShow_any (valS a + valS b) a.size x3 W)
  have HD := hidH (show sumS a b = ⟨(showB (valS a + valS b) a.size).toArray⟩ from rfl)
  have b1 : valS a ≤ 1000000000000 := by omega
  have b2 : valS b ≤ 1000000000000 := by omega
  clear ha hb x1 x4 y1 y4
  generalize valS a = p at *
  generalize valS b = q at *
  go_enter Tryd.func47, Tryd.ntmps47
  go_wp2_with fail
  refine (V1.out _).mono ?_; rintro e w1 ⟨rfl, rfl⟩
  go_wp2_with fail
  refine (V2.out _).mono ?_; rintro e w1 ⟨rfl, rfl⟩
  go_wp2_with fail
  refine (HS.out _).mono ?_; rintro e w1 ⟨rfl, hb⟩
  have HB := hidH hb
  clear hb
  go_wp2
  go_ret
  exact ⟨by rw [HD.out]; rfl, HB.out⟩
end Go.Proofs.YtliakbgigkajnaaDoor
namespace Go.Proofs.YtliakbgigkajnaaDoor
set_option maxRecDepth 4000
set_option linter.unusedVariables false
open Go.RowKit
theorem lies_blk {w : World} {b k0 cap : Nat} {zs : List ByteArray} (H : BlkS w b zs) (hc : zs.length - k0 ≤ cap) (hm : cap ≤ maxLen) (lo hi : Nat) (hl : lo ≤ b) (hh : b < hi) : LiesS w lo hi (.slice (some ⟨b, k0, none⟩) (zs.length - k0) cap) (zs.drop k0) :=
  lies_ofS (by rw [List.length_drop]) (by rw [List.length_drop]; exact hc) hm hl hh fun j z hj => by
    rw [List.getElem?_drop] at hj
    exact (H.2 _ _ hj).1
set_option maxHeartbeats 4000000 in
theorem turnBack_any (n b k0 cap : Nat) (zs : List ByteArray) (w : World) (hB : BlkS w b zs) (hk0 : k0 ≤ zs.length) (hl : zs.length ≤ 1048576) (hcl : zs.length - k0 ≤ cap) (hcm : cap ≤ 9223372036854775807) (hz : ∀ z ∈ zs, colN n z) :
    Calls Tryd.prog 44 #[.slice (some ⟨b, k0, none⟩) (zs.length - k0) cap] w fun e w' => e = .returned (.tuple #[]) ∧ BlkS w' b (tailBack difS k0 zs) ∧ Onto b w w' := by
  have HB0 := hidH hB
  have HZ := hidH hz
  have HSB := hidH (fun c d (hc : colN n c) (hd : colN n d) W => subS_yes c d W hc.1 hd.1 (by rw [hc.2, hd.2]))
  have HLN := hidH (fun k => tailBack_length difS k zs)
  have HAL := hidH (fun k => tailBack_all difS (colN n) (colN_dif n) k zs hz)
  have HBL := hidH (backL_all difS (colN n) (colN_dif n) zs hz)
  clear hB hz
  by_cases h0 : zs.length - k0 = 0
  · have HE := hidH (tailBack_last difS k0 zs (by omega))
    rw [h0] at *
    go_enter Tryd.func44, Tryd.ntmps44
    go_wp2
    go_loopw [2] (fun i wr => i = .int .i64 (-2) ∧ w = wr) (fun _ _ => 0)
    case atStart => exact ⟨rfl, rfl⟩
    case round =>
      obtain ⟨rfl, rfl⟩ := hrel
      go_wp2
      go_end0
      exact ⟨rfl, by rw [HE.out]; exact HB0.out, Onto.refl _ _⟩
  · obtain ⟨m, hm⟩ : ∃ m, zs.length - k0 = m + 1 := ⟨zs.length - k0 - 1, by omega⟩
    have HE := hidH (tailBack_last difS (k0 + m) zs (by omega))
    have hzl : zs.length = k0 + m + 1 := by omega
    have HZL := hidH hzl
    rw [hm] at hcl ⊢
    clear h0 hm hl hk0 hzl
    go_enter Tryd.func44, Tryd.ntmps44
    go_wp2
    go_loopw [2] (fun i wr => ∃ t : Nat, t ≤ m ∧ i = .int .i64 ((t : Int) - 1) ∧ BlkS wr b (tailBack difS (k0 + t) zs) ∧ Onto b w wr) (fun i _ => (intOf i + 1).toNat)
    case atStart => exact ⟨m, Nat.le_refl _, by go_num, by rw [HE.out]; exact HB0.out, Onto.refl _ _⟩
    case round =>
      obtain ⟨t, ht, rfl, hB, ho⟩ := hrel
      have HB := hidH hB
      have HO := hidH ho
      clear hB ho
      by_cases hlt : 0 < t
      · obtain ⟨s, rfl⟩ : ∃ s, t = s + 1 := ⟨t - 1, by omega⟩
        obtain ⟨c, hc⟩ := get_lt zs (k0 + s) (by have := HZL.out; omega)
        obtain ⟨d, hd⟩ := get_lt (backL difS zs) (k0 + s + 1) (by rw [backL_length]; have := HZL.out; omega)
        have HST := hidH (tailBack_step difS (k0 + s) zs c d hc hd)
        have c1 := HB.out.2 (k0 + s) c (by rw [show k0 + (s + 1) = (k0 + s) + 1 by omega, tailBack_low _ _ _ _ (by omega)]; exact hc)
        have c2 := HB.out.2 (k0 + s + 1) d (by rw [show k0 + (s + 1) = (k0 + s) + 1 by omega, tailBack_high _ _ _ _ (by omega)]; exact hd)
        have HCS := hidH (HSB.out c d (HZ.out c (List.mem_of_getElem? hc)) (HBL.out d (List.mem_of_getElem? hd)))
        have C1 := hidH c1
        obtain ⟨hc1, hf1⟩ := c1
        obtain ⟨hc2, hf2⟩ := c2
        rw [Nat.add_assoc] at hc2
        have hsm : s < m + 1 := by omega
        obtain ⟨j, hj⟩ : ∃ j, j = s + 1 := ⟨_, rfl⟩
        have hw : IntKind.i64.wrap ((s : Int) + 1) = (j : Int) := by rw [hj]; exact IntWalk.i64_in _ (by omega)
        have hjm : j < m + 1 := by omega
        rw [← hj] at hc2
        have HJ := hidH hj
        clear hj
        have HBW := hidH (show b < wr.heap.size from HB.out.1)
        clear hc hd
        have hi1 : ((s + 1 : Nat) : Int) - 1 = (s : Int) := by omega
        rw [hi1]
        go_wp2_with fail
        go_region_with (go_at_call 66; (with_reducible refine (HCS.out _).mono ?_); rintro e w2 ⟨rfl, hbw⟩; (have HBD := hidH (bDrew' hbw)); (have HB2 := hidH (HB.out.below HBD.out)); (have hd2 := HB2.out.2 (k0 + s)); (have hq1 : w2.cell? ⟨b, k0 + s, none⟩ = some (.string c) := by rw [HBD.out.cell (p := ⟨b, k0 + s, none⟩) HBW.out]; exact C1.out.1); (have hq2 : w2.frozen? ⟨b, k0 + s, none⟩ = false := by rw [HBD.out.frozen (p := ⟨b, k0 + s, none⟩) HBW.out]; exact C1.out.2); clear hbw hd2)
        all_goals
          go_wp2
          go_roundw
          case rel =>
            refine ⟨s, by omega, by go_num, ?_, (HO.out.trans (Onto.of_below HBD.out)).trans (Onto.setCell b (k0 + s) _ _)⟩
            rw [← HST.out]
            exact HB2.out.set (k0 + s) _
          case measure => simp [intOf] <;> omega
      · obtain rfl : t = 0 := by omega
        go_wp2
        go_end0
        exact ⟨rfl, HB.out, HO.out⟩
end Go.Proofs.YtliakbgigkajnaaDoor
