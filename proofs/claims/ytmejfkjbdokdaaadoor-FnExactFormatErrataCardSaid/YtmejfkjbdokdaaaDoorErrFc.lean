/-
  The text of errata: the program. Conditions: at most 1048576 errata; the library's table of powers of ten is as its own text lays it.
-/
import Derived.Test.YtmejfkjbdokdaaaDoorErrFb
namespace Go.Proofs.YtmejfkjbdokdaaaDoor
set_option maxRecDepth 4000
open Go.RowKit
theorem join_eBL (F : List Int) (n : Nat) : Lib.join (((List.range n).map (eB F)).map (·.data.toList)) [59] = eTexts F n := by
  unfold eTexts
  rw [List.map_map]
  congr 1
theorem eB_eq (F : List Int) (k : Nat) : eB F k = decB (eAt F k) ++ ⟨#[58]⟩ ++ decB (eWr F k) ++ ⟨#[62]⟩ ++ decB (eRi F k) := (eTxt_bytes F k).symm
set_option maxHeartbeats 3200000 in
theorem formatE_any (v : Value) (n : Nat) (F : List Int) (w : World) (lo hi : Nat) (hv : Lies3 w lo hi v n F) (hn : n ≤ 1048576) (hT : PowT w) : Calls Tryd.prog 9 #[v] w (Gives (.string (feB F n)) w) := by
  have HV0 := hidH hv
  have HT := hidH hT
  obtain ⟨a0, cap0, rfl, hlc0, hcm0⟩ := lies3_len hv
  unfold maxLen at hcm0
  clear hv hT
  cases hk : okEs F n
  · have HK := hidH hk
    have HR := hidH (show feB F n = ⟨#[]⟩ by unfold feB; rw [hk]; rfl)
    rw [HR.out]
    clear hk
    go_enter Tryd.func9, Tryd.ntmps9
    go_wp2_with fail
    refine (errValid_any _ n F _ _ _ HV0.out hn).mono ?_; rintro e w1 ⟨rfl, hb⟩
    have HB1 := hidH hb
    clear hb
    rw [HK.out]
    go_wp2_with fail
    go_ret
    exact ⟨rfl, HB1.out⟩
  · have HK := hidH hk
    have h60 := okEs_60 F n hk
    clear hk
    by_cases h0 : n = 0
    · subst h0
      have HR := hidH (show feB F 0 = ⟨#[45]⟩ from rfl)
      rw [HR.out]
      go_enter Tryd.func9, Tryd.ntmps9
      go_wp2_with fail
      refine (errValid_any _ 0 F _ _ _ HV0.out hn).mono ?_; rintro e w1 ⟨rfl, hb⟩
      have HB1 := hidH hb
      clear hb
      rw [HK.out]
      go_wp2_with fail
      go_ret
      exact ⟨rfl, HB1.out⟩
    · have HR := hidH (show feB F n = ⟨(eTexts F n).toArray⟩ by unfold feB; rw [HK.out, if_pos rfl, if_neg h0])
      rw [HR.out]
      obtain ⟨b0, off0, cc, e, _, _, hbw, hcl⟩ := lies3_cells HV0.out (by omega)
      injection e with e1 e2 e3
      subst e1
      have HCL := hidH hcl
      have hnz : (n == 0) = false := beq_eq_false_iff_ne.2 h0
      have hnz2 : ((n : Int) == 0) = false := beq_eq_false_iff_ne.2 (by omega)
      clear e2 e3 hcl
      go_enter Tryd.func9, Tryd.ntmps9
      go_wp2_with fail
      refine (errValid_any _ n F _ _ _ HV0.out hn).mono ?_; rintro e w1 ⟨rfl, hb⟩
      have HB1 := hidH hb
      clear hb
      rw [HK.out]
      have hmk := run_make_row' (P := Tryd.prog) 43 9 (.string ⟨#[]⟩) 16 Tryd.underlying43 infoStr rfl .i64 .i64 n (by omega) (by omega) w1
      have HM := hidH (BlkS.made w1 9 n)
      have HBm := hidH ((HB1.out).alloc HB1.out.size (.cells (madeCells #[Value.string ⟨#[]⟩] n) 9))
      have hlt1 : w.heap.size ≤ w1.heap.size := HB1.out.size
      have hML : ((List.range n).map (eB F)).length = n := by rw [List.length_map, List.length_range]
      have HML := hidH hML
      clear hML
      go_wp2_with fail
      go_loopw [17] (fun i wr => ∃ k : Nat, k ≤ n ∧ i = .int .i64 k ∧ BlkS wr w1.heap.size (fillS ((List.range n).map (eB F)) k) ∧ Below w.heap.size w wr) (fun i _ => n - (intOf i).toNat)
      case atStart => exact ⟨0, Nat.zero_le _, rfl, by rw [fill_zeroS, HML.out]; exact HM.out, HBm.out⟩
      case round =>
        obtain ⟨k, hkn, rfl, hB, hb⟩ := hrel
        have HBk := hidH hB
        have HBr := hidH hb
        have hsz := hb.size
        clear hB hb HM HBm
        by_cases hlt : k < n
        · have c0 : wr.cell? ⟨b0, off0 + k * 3, none⟩ = some (.int .i64 (eAt F k)) := by rw [HBr.out.cell (p := ⟨b0, off0 + k * 3, none⟩) hbw]; exact (HCL.out k hlt).1
          have c1 : wr.cell? ⟨b0, off0 + k * 3 + 1, none⟩ = some (.int .i64 (eWr F k)) := by rw [HBr.out.cell (p := ⟨b0, off0 + k * 3 + 1, none⟩) hbw]; exact (HCL.out k hlt).2.1
          have c2 : wr.cell? ⟨b0, off0 + k * 3 + 2, none⟩ = some (.int .i64 (eRi F k)) := by rw [HBr.out.cell (p := ⟨b0, off0 + k * 3 + 2, none⟩) hbw]; exact (HCL.out k hlt).2.2
          have hone := (okE_iff F k).1 (okEs_at F n HK.out k hlt)
          have hls := (least_nn F k (okEs_pre F n HK.out k hkn)).1
          obtain ⟨⟨hx1, hx2⟩, _, hy, hz⟩ := hone
          have ⟨hy1, hy2⟩ := of_decide_eq_true hy
          have ⟨hz1, hz2⟩ := of_decide_eq_true hz
          have HE := hidH (eB_eq F k)
          have HAt := hidH (eB_at F n k hlt)
          have HS := hidH (fill_setS ((List.range n).map (eB F)) k (eB F k) HAt.out)
          have HBa := hidH (bMore HBr.out (.cells #[.int .i64 (eAt F k), .int .i64 (eWr F k), .int .i64 (eRi F k)] 40))
          have HKa := hidH (HBk.out.below ((Below.refl _ _).alloc (Nat.le_refl _) (.cells #[.int .i64 (eAt F k), .int .i64 (eWr F k), .int .i64 (eRi F k)] 40)))
          have HTX := hidH (erratumText_any (eAt F k) (eWr F k) (eRi F k) (wr.alloc (.cells #[.int .i64 (eAt F k), .int .i64 (eWr F k), .int .i64 (eRi F k)] 40)) (by omega) (by omega) (by omega) (HT.out.below HBa.out))
          rw [HE.out] at HS
          clear hy hz hls hx1
          generalize eAt F k = x at *
          generalize eWr F k = y at *
          generalize eRi F k = z at *
          generalize decB x ++ ⟨#[58]⟩ ++ decB y ++ ⟨#[62]⟩ ++ decB z = tb at *
          go_wp2_with fail
          refine HTX.out.mono ?_; rintro e w2 ⟨rfl, hb⟩
          have HB2 := hidH (HBa.out.trans (hb.mono HBa.out.size))
          have HK2 := hidH (HKa.out.below hb)
          obtain ⟨ho, hf⟩ := HK2.out.2 k _ (fill_atS ((List.range n).map (eB F)) k (by rw [HML.out]; exact hlt))
          clear hb HBr HBk HBa HKa HTX c0 c1 c2
          go_wp2_with fail
          go_roundw
          case rel => exact ⟨k + 1, by omega, by go_num, by rw [← HS.out]; exact HK2.out.set k _, HB2.out.setCell hlt1 _⟩
          case measure => simp [intOf]; omega
        · obtain rfl : k = n := by omega
          have hB := HBk.out
          have hfa := fill_allS ((List.range k).map (eB F))
          rw [HML.out] at hfa
          rw [hfa] at hB
          have HJo := hidH (join_any ((List.range k).map (eB F)) ⟨#[59]⟩ (.slice (some ⟨w1.heap.size, 0, none⟩) k k) wr 0 (w1.heap.size + 1) (hB.row (Nat.zero_le _) (Nat.lt_succ_self _) (Nat.le_of_eq HML.out) (by unfold maxLen; omega) HML.out.symm).lies (by
            show (Lib.join _ [59]).length ≤ _
            rw [join_eBL]
            have := (eTexts_len F k HK.out).1
            omega) (by rw [HML.out]; omega))
          rw [join_eB] at HJo
          clear hB hfa
          go_wp2_with fail
          refine HJo.out.mono ?_; rintro e w2 ⟨rfl, hb⟩
          have HB2 := hidH (HBr.out.trans (hb.mono HBr.out.size))
          clear hb
          go_wp2_with fail
          go_ret
          exact ⟨rfl, HB2.out⟩
end Go.Proofs.YtmejfkjbdokdaaaDoor
