/-
  The text of errata: the model. Condition: at most 1048576 errata.
-/
import Derived.Test.YtmejfkjbdokdaaaDoorErrFb
namespace Go.Proofs.YtmejfkjbdokdaaaDoor
set_option maxRecDepth 4000
open Go.RowKit
theorem tx_step (t : List UInt8) (F : List Int) (k : Nat) (s : List UInt8) : (⟨(t ++ s ++ eTxt F k).toArray⟩ : ByteArray) = ⟨t.toArray⟩ ++ ⟨s.toArray⟩ ++ decB (eAt F k) ++ ⟨#[58]⟩ ++ decB (eWr F k) ++ ⟨#[62]⟩ ++ decB (eRi F k) := by
  unfold eTxt decB
  simp [bytes_append]
theorem tx_step0 (t : List UInt8) (F : List Int) (k : Nat) : (⟨(t ++ [] ++ eTxt F k).toArray⟩ : ByteArray) = ⟨t.toArray⟩ ++ decB (eAt F k) ++ ⟨#[58]⟩ ++ decB (eWr F k) ++ ⟨#[62]⟩ ++ decB (eRi F k) := by
  unfold eTxt decB
  simp [bytes_append]
set_option maxHeartbeats 3200000 in
theorem sFormatE_any (v : Value) (n : Nat) (F : List Int) (w : World) (lo hi : Nat) (hv : Lies3 w lo hi v n F) (hn : n ≤ 1048576) : Calls Tryd.prog 7 #[v] w (Gives (.string (feB F n)) w) := by
  have HV0 := hidH hv
  obtain ⟨a0, cap0, rfl, hlc0, hcm0⟩ := lies3_len hv
  unfold maxLen at hcm0
  clear hv
  cases hk : okEs F n
  · have HK := hidH hk
    have HR := hidH (show feB F n = ⟨#[]⟩ by unfold feB; rw [hk]; rfl)
    rw [HR.out]
    clear hk
    go_enter Tryd.func7, Tryd.ntmps7
    go_wp2_with fail
    refine (sErrValid_any _ n F _ _ _ HV0.out hn).mono ?_; rintro e w1 ⟨rfl, hb⟩
    have HB1 := hidH hb
    clear hb
    rw [HK.out]
    go_wp2_with fail
    go_ret
    exact ⟨rfl, HB1.out⟩
  · have HK := hidH hk
    have h60 := okEs_60 F n hk
    clear hk
    by_cases h0 : n = 0
    · subst h0
      have HR := hidH (show feB F 0 = ⟨#[45]⟩ from rfl)
      rw [HR.out]
      go_enter Tryd.func7, Tryd.ntmps7
      go_wp2_with fail
      refine (sErrValid_any _ 0 F _ _ _ HV0.out hn).mono ?_; rintro e w1 ⟨rfl, hb⟩
      have HB1 := hidH hb
      clear hb
      rw [HK.out]
      go_wp2_with fail
      go_loopw [3, 4] (fun o i wr => i = .int .i64 0 ∧ o = .string ⟨#[]⟩ ∧ w1 = wr) (fun _ _ _ => 0)
      case atStart => exact ⟨rfl, rfl, rfl⟩
      case round =>
        obtain ⟨rfl, rfl, rfl⟩ := hrel
        go_wp2_with fail
        go_ret
        exact ⟨rfl, HB1.out⟩
    · have HR := hidH (show feB F n = ⟨(eTexts F n).toArray⟩ by unfold feB; rw [HK.out, if_pos rfl, if_neg h0])
      rw [HR.out]
      obtain ⟨b0, off0, cc, e, _, _, hbw, hcl⟩ := lies3_cells HV0.out (by omega)
      injection e with e1 e2 e3
      subst e1
      have HCL := hidH hcl
      clear e2 e3 hcl
      go_enter Tryd.func7, Tryd.ntmps7
      go_wp2_with fail
      refine (sErrValid_any _ n F _ _ _ HV0.out hn).mono ?_; rintro e w1 ⟨rfl, hb⟩
      have HB1 := hidH hb
      clear hb
      rw [HK.out]
      go_wp2_with fail
      go_loopw [3, 4] (fun o i wr => ∃ k : Nat, k ≤ n ∧ i = .int .i64 k ∧ o = .string ⟨(eTexts F k).toArray⟩ ∧ Below w.heap.size w wr) (fun _ i _ => n - (intOf i).toNat)
      case atStart => exact ⟨0, Nat.zero_le _, rfl, rfl, HB1.out⟩
      case round =>
        obtain ⟨k, hkn, rfl, rfl, hb⟩ := hrel
        have HB := hidH hb
        have hsz := hb.size
        clear hb
        have hpre := okEs_pre F n HK.out k hkn
        have hlen : (⟨(eTexts F k).toArray⟩ : ByteArray).size ≤ 4020 := by
          have := (eTexts_len F k hpre).1
          show (eTexts F k).length ≤ _
          omega
        by_cases hlt : k < n
        · have c0 : wr.cell? ⟨b0, off0 + k * 3, none⟩ = some (.int .i64 (eAt F k)) := by rw [HB.out.cell (p := ⟨b0, off0 + k * 3, none⟩) hbw]; exact (HCL.out k hlt).1
          have c1 : wr.cell? ⟨b0, off0 + k * 3 + 1, none⟩ = some (.int .i64 (eWr F k)) := by rw [HB.out.cell (p := ⟨b0, off0 + k * 3 + 1, none⟩) hbw]; exact (HCL.out k hlt).2.1
          have c2 : wr.cell? ⟨b0, off0 + k * 3 + 2, none⟩ = some (.int .i64 (eRi F k)) := by rw [HB.out.cell (p := ⟨b0, off0 + k * 3 + 2, none⟩) hbw]; exact (HCL.out k hlt).2.2
          have hbwr : b0 < wr.heap.size := by omega
          have hone := (okE_iff F k).1 (okEs_at F n HK.out k hlt)
          have hls := (least_nn F k hpre).1
          obtain ⟨⟨hx1, hx2⟩, _, hy, hz⟩ := hone
          have ⟨hy1, hy2⟩ := of_decide_eq_true hy
          have ⟨hz1, hz2⟩ := of_decide_eq_true hz
          have HTS := hidH (tx_step (eTexts F k) F k [59])
          have HTS0 := hidH (tx_step0 (eTexts F k) F k)
          have HTK := hidH (eTexts_take F k)
          have hx0 : 0 ≤ eAt F k := by omega
          clear hy hz hls hx1 hpre
          generalize eTexts F k = t at *
          generalize eAt F k = x at *
          generalize eWr F k = y at *
          generalize eRi F k = z at *
          have lx : (decB x).size ≤ 21 := Lib.itoa_length_le x (by omega) (by omega)
          have ly : (decB y).size ≤ 21 := Lib.itoa_length_le y (by omega) (by omega)
          have lz : (decB z).size ≤ 21 := Lib.itoa_length_le z (by omega) (by omega)
          have HX := hidH fun W (hb : Below wr.heap.size wr W) => (l9Dec_any x (by omega) (by omega) W).mono fun e w' (h : Gives _ W e w') => (⟨h.1, hb.trans (h.2.mono hb.size)⟩ : e = .returned (.string (decB x)) ∧ Below wr.heap.size wr w')
          have HY := hidH fun W (hb : Below wr.heap.size wr W) => (l9Dec_any y (by omega) (by omega) W).mono fun e w' (h : Gives _ W e w') => (⟨h.1, hb.trans (h.2.mono hb.size)⟩ : e = .returned (.string (decB y)) ∧ Below wr.heap.size wr w')
          have HZ := hidH fun W (hb : Below wr.heap.size wr W) => (l9Dec_any z (by omega) (by omega) W).mono fun e w' (h : Gives _ W e w') => (⟨h.1, hb.trans (h.2.mono hb.size)⟩ : e = .returned (.string (decB z)) ∧ Below wr.heap.size wr w')
          have Hc0 := hidH c0
          have Hc1 := hidH c1
          have Hc2 := hidH c2
          have HBc := hidH (Below.refl wr.heap.size wr)
          generalize decB x = dx at *
          generalize decB y = dy at *
          generalize decB z = dz at *
          by_cases h2 : 0 < k
          · have HE := hidH (show (⟨(eTexts F (k + 1)).toArray⟩ : ByteArray) = (⟨t.toArray⟩ : ByteArray) ++ ⟨#[59]⟩ ++ dx ++ ⟨#[58]⟩ ++ dy ++ ⟨#[62]⟩ ++ dz by rw [HTK.out, if_pos h2]; exact HTS.out)
            have hd2 : decide (0 < k) = true := decide_eq_true h2
            generalize (⟨t.toArray⟩ : ByteArray) = tb at *
            clear HTS HTS0 HTK
            go_wp2_with fail
            go_region_held (fun w' => w'.cell? ⟨b0, off0 + k * 3, none⟩ = some (.int .i64 x) ∧ w'.cell? ⟨b0, off0 + k * 3 + 1, none⟩ = some (.int .i64 y) ∧ w'.cell? ⟨b0, off0 + k * 3 + 2, none⟩ = some (.int .i64 z))
              (first | exact ⟨c0, c1, c2⟩ | go_keep)
              (first
              | (go_at_call 19; (with_reducible refine (HX.out _ (by first | exact HBc.out | exact HBc.out.drew)).mono ?_); rintro e wd ⟨rfl, hbd⟩; have HBc := hidH hbd; have c0 : wd.cell? ⟨b0, off0 + k * 3, none⟩ = some (.int .i64 x) := (by rw [HBc.out.cell (p := ⟨b0, off0 + k * 3, none⟩) hbwr]; exact Hc0.out); have c1 : wd.cell? ⟨b0, off0 + k * 3 + 1, none⟩ = some (.int .i64 y) := (by rw [HBc.out.cell (p := ⟨b0, off0 + k * 3 + 1, none⟩) hbwr]; exact Hc1.out); have c2 : wd.cell? ⟨b0, off0 + k * 3 + 2, none⟩ = some (.int .i64 z) := (by rw [HBc.out.cell (p := ⟨b0, off0 + k * 3 + 2, none⟩) hbwr]; exact Hc2.out); clear hbd)
              | (go_at_call 19; (with_reducible refine (HY.out _ (by first | exact HBc.out | exact HBc.out.drew)).mono ?_); rintro e wd ⟨rfl, hbd⟩; have HBc := hidH hbd; have c0 : wd.cell? ⟨b0, off0 + k * 3, none⟩ = some (.int .i64 x) := (by rw [HBc.out.cell (p := ⟨b0, off0 + k * 3, none⟩) hbwr]; exact Hc0.out); have c1 : wd.cell? ⟨b0, off0 + k * 3 + 1, none⟩ = some (.int .i64 y) := (by rw [HBc.out.cell (p := ⟨b0, off0 + k * 3 + 1, none⟩) hbwr]; exact Hc1.out); have c2 : wd.cell? ⟨b0, off0 + k * 3 + 2, none⟩ = some (.int .i64 z) := (by rw [HBc.out.cell (p := ⟨b0, off0 + k * 3 + 2, none⟩) hbwr]; exact Hc2.out); clear hbd)
              | (go_at_call 19; (with_reducible refine (HZ.out _ (by first | exact HBc.out | exact HBc.out.drew)).mono ?_); rintro e wd ⟨rfl, hbd⟩; have HBc := hidH hbd; have c0 : wd.cell? ⟨b0, off0 + k * 3, none⟩ = some (.int .i64 x) := (by rw [HBc.out.cell (p := ⟨b0, off0 + k * 3, none⟩) hbwr]; exact Hc0.out); have c1 : wd.cell? ⟨b0, off0 + k * 3 + 1, none⟩ = some (.int .i64 y) := (by rw [HBc.out.cell (p := ⟨b0, off0 + k * 3 + 1, none⟩) hbwr]; exact Hc1.out); have c2 : wd.cell? ⟨b0, off0 + k * 3 + 2, none⟩ = some (.int .i64 z) := (by rw [HBc.out.cell (p := ⟨b0, off0 + k * 3 + 2, none⟩) hbwr]; exact Hc2.out); clear hbd))
            all_goals (
              go_wp2_with fail
              go_roundw
              case rel => exact ⟨k + 1, by omega, by go_num, by rw [HE.out], HB.out.trans (HBc.out.mono HB.out.size)⟩
              case measure => simp [intOf]; omega)
          · have HE := hidH (show (⟨(eTexts F (k + 1)).toArray⟩ : ByteArray) = (⟨t.toArray⟩ : ByteArray) ++ dx ++ ⟨#[58]⟩ ++ dy ++ ⟨#[62]⟩ ++ dz by rw [HTK.out, if_neg h2]; exact HTS0.out)
            have hd2 : decide (0 < k) = false := decide_eq_false h2
            generalize (⟨t.toArray⟩ : ByteArray) = tb at *
            clear HTS HTS0 HTK
            go_wp2_with fail
            go_region_held (fun w' => w'.cell? ⟨b0, off0 + k * 3, none⟩ = some (.int .i64 x) ∧ w'.cell? ⟨b0, off0 + k * 3 + 1, none⟩ = some (.int .i64 y) ∧ w'.cell? ⟨b0, off0 + k * 3 + 2, none⟩ = some (.int .i64 z))
              (first | exact ⟨c0, c1, c2⟩ | go_keep)
              (first
              | (go_at_call 19; (with_reducible refine (HX.out _ (by first | exact HBc.out | exact HBc.out.drew)).mono ?_); rintro e wd ⟨rfl, hbd⟩; have HBc := hidH hbd; have c0 : wd.cell? ⟨b0, off0 + k * 3, none⟩ = some (.int .i64 x) := (by rw [HBc.out.cell (p := ⟨b0, off0 + k * 3, none⟩) hbwr]; exact Hc0.out); have c1 : wd.cell? ⟨b0, off0 + k * 3 + 1, none⟩ = some (.int .i64 y) := (by rw [HBc.out.cell (p := ⟨b0, off0 + k * 3 + 1, none⟩) hbwr]; exact Hc1.out); have c2 : wd.cell? ⟨b0, off0 + k * 3 + 2, none⟩ = some (.int .i64 z) := (by rw [HBc.out.cell (p := ⟨b0, off0 + k * 3 + 2, none⟩) hbwr]; exact Hc2.out); clear hbd)
              | (go_at_call 19; (with_reducible refine (HY.out _ (by first | exact HBc.out | exact HBc.out.drew)).mono ?_); rintro e wd ⟨rfl, hbd⟩; have HBc := hidH hbd; have c0 : wd.cell? ⟨b0, off0 + k * 3, none⟩ = some (.int .i64 x) := (by rw [HBc.out.cell (p := ⟨b0, off0 + k * 3, none⟩) hbwr]; exact Hc0.out); have c1 : wd.cell? ⟨b0, off0 + k * 3 + 1, none⟩ = some (.int .i64 y) := (by rw [HBc.out.cell (p := ⟨b0, off0 + k * 3 + 1, none⟩) hbwr]; exact Hc1.out); have c2 : wd.cell? ⟨b0, off0 + k * 3 + 2, none⟩ = some (.int .i64 z) := (by rw [HBc.out.cell (p := ⟨b0, off0 + k * 3 + 2, none⟩) hbwr]; exact Hc2.out); clear hbd)
              | (go_at_call 19; (with_reducible refine (HZ.out _ (by first | exact HBc.out | exact HBc.out.drew)).mono ?_); rintro e wd ⟨rfl, hbd⟩; have HBc := hidH hbd; have c0 : wd.cell? ⟨b0, off0 + k * 3, none⟩ = some (.int .i64 x) := (by rw [HBc.out.cell (p := ⟨b0, off0 + k * 3, none⟩) hbwr]; exact Hc0.out); have c1 : wd.cell? ⟨b0, off0 + k * 3 + 1, none⟩ = some (.int .i64 y) := (by rw [HBc.out.cell (p := ⟨b0, off0 + k * 3 + 1, none⟩) hbwr]; exact Hc1.out); have c2 : wd.cell? ⟨b0, off0 + k * 3 + 2, none⟩ = some (.int .i64 z) := (by rw [HBc.out.cell (p := ⟨b0, off0 + k * 3 + 2, none⟩) hbwr]; exact Hc2.out); clear hbd))
            all_goals (
              go_wp2_with fail
              go_roundw
              case rel => exact ⟨k + 1, by omega, by go_num, by rw [HE.out], HB.out.trans (HBc.out.mono HB.out.size)⟩
              case measure => simp [intOf]; omega)
        · obtain rfl : k = n := by omega
          have hne := (eTexts_len F k HK.out).2 (by omega)
          have hnb : (⟨(eTexts F k).toArray⟩ : ByteArray).toList.isEmpty = false := by
            rw [Lib.toList_data]
            cases h : eTexts F k with
            | nil => rw [h] at hne; exact absurd hne (Nat.lt_irrefl _)
            | cons a b => rfl
          generalize (⟨(eTexts F k).toArray⟩ : ByteArray) = tb at *
          clear hne
          go_wp2_with fail
          go_ret
          exact ⟨rfl, HB.out⟩
end Go.Proofs.YtmejfkjbdokdaaaDoor
