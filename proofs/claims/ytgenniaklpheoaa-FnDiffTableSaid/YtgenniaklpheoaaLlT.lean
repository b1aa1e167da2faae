/-
  The walks of the model's DiffTable. No conditions.
-/
import Derived.Test.YtgenniaklpheoaaLlS
namespace Go.Proofs.Ytgenniaklpheoaa
set_option maxRecDepth 4000
open Go.RowKit
theorem rowsL_snoc (zs : List Int) (m : Nat) : rowsL zs (m + 1) = rowsL zs m ++ [difN m zs] := by simp [rowsL, List.range_succ]
set_option maxHeartbeats 2000000 in
theorem sRaw_any (v : Value) (zs : List Int) (w : World) (lo hi : Nat) (hv : Lies w lo hi v zs) : Calls Try.prog 69 #[v] w (NewLL (dtA zs) w) := by
  obtain ⟨i0, hi0, hz0, hz1, hz2⟩ := info_parts infoInt
  obtain ⟨j0, hj0, hy0, hy1, hy2⟩ := info_parts infoSl
  have HO := hidH (World.ownsRow_made (base := w.heap.size) (e := 23) (size := 1) w #[] 0 (Nat.le_refl _) (Nat.zero_le _) rfl)
  have HB0 := hidH ((Below.refl w.heap.size w).alloc (Nat.le_refl _) (.cells #[] 23))
  have HSh := hidH fun W (hb : Below w.heap.size w W) => sShort_any v zs W lo hi (hv.below hb)
  cases hs : (tableOk zs && shortOk zs)
  · rw [hs] at HSh
    have HA := hidH (dtA_no zs hs)
    obtain ⟨a, cap, rfl, _⟩ := hv
    clear hs
    go_enter Try.func69, Try.ntmps69
    go_wp2_with fail
    refine (HSh.out _ HB0.out).mono ?_; rintro e w1 ⟨rfl, hb⟩
    have HB1 := hidH (HB0.out.trans (hb.mono HB0.out.size))
    clear hb
    go_wp2_with fail
    go_ret
    refine ⟨_, rfl, ?_, HB1.out⟩
    rw [HA.out]
    exact Or.inl ⟨rfl, _, _, rfl, Nat.zero_le _⟩
  · rw [hs] at HSh
    have HA := hidH (dtA_yes zs hs)
    have hs2 := hs
    rw [Bool.and_eq_true] at hs2
    have ⟨l1, _⟩ := tableOk_len zs hs2.1
    have l30 : zs.length ≤ 30 := of_decide_eq_true hs2.2
    obtain ⟨b, off, cap, rfl, hlc, hcm, _, _, hbl, hcell⟩ := hv.addr (by omega)
    unfold maxLen at hcm
    have HCM := hidH fun W (hb : Below w.heap.size w W) => cells_map (zs := zs) (b := b) (off := off) (w := w) hcell W hb
    have HOc := hidH (oneCells zs)
    have HLN := hidH (show (ints zs).length = zs.length * 1 by rw [ints_length, Nat.mul_one])
    clear hs hs2 hcell
    go_enter Try.func69, Try.ntmps69
    go_wp2_with fail
    refine (HSh.out _ HB0.out).mono ?_; rintro e w1 ⟨rfl, hb⟩
    have HB1 := hidH (HB0.out.trans (hb.mono HB0.out.size))
    have HO1 := hidH (owns_below HO.out hb)
    have s1 := HB1.out.size
    have s1b : w.heap.size < w1.heap.size := by
      have h1 : (w.alloc (.cells #[] 23)).heap.size = w.heap.size + 1 := by simp
      have h2 := hb.size
      omega
    clear hb HSh HB0 HO
    go_wp2_with (at_builtin; refine wpList_append_own _ rfl _ _ 23 rfl w1.heap.size 3 i0 (.int .i64 0) 1 8 Try.underlying23 hi0 hz0 hz1 hz2 rfl (by decide) _ _ _ rfl (World.ownsRow_made w1 #[] 0 (Nat.le_refl _) (Nat.zero_le _) rfl) ⟨b, off, none⟩ zs.length cap (ints zs) rfl HLN.out (HCM.out _ (HB1.out.alloc s1 _)) HOc.out (by unfold maxLen; omega) (by omega) (by simp) ?_)
    intro v2 w2 hown hgrow _
    have hb12 : Below w1.heap.size w1 w2 := ((Below.refl _ w1).alloc (Nat.le_refl _) _).grown hgrow (by simp) (by intro k hk; simp [Value.ownBlock] at hk; omega)
    have hr2 := (row_of_owns hown).1
    have hsz2 : w1.heap.size < w2.heap.size := by
      have h1 : (w1.alloc (.cells #[] 3)).heap.size = w1.heap.size + 1 := by simp
      have h2 := hgrow.size
      omega
    obtain ⟨fc, ca, cc, rfl, hc2, hc1, hfc1, hfc2, hrc⟩ := row_block hr2 hsz2
    have HB2 := hidH (HB1.out.trans (hb12.mono s1))
    have HO2 := hidH (owns_below HO1.out hb12)
    have HRC := hidH hrc
    clear hown hgrow hb12 hr2 hrc HO1 HB1 HCM HLN HOc
    go_wp2_with fail
    go_loopw [3, 4] (fun o c wr => ∃ (k : Nat) (ov : Value) (a : Option Addr) (cap : Nat) (fc : Nat) (f : Nat → Nat) (xs : List Value), k ≤ zs.length ∧ ov = o ∧ c = .slice a (difN k zs).length cap ∧ cap ≤ maxLen ∧ (difN k zs).length ≤ cap ∧ Row wr fc (fc + 1) (.slice a (difN k zs).length cap) (difN k zs) ∧ Hid (k < zs.length → w.heap.size ≤ fc ∧ fc < wr.heap.size ∧ ov.ownBlock ≠ some fc ∧ ∀ j, j < k → f j ≠ fc) ∧ wr.ownsRow w.heap.size 23 1 ov k xs ∧ InnerR wr w.heap.size f ov.ownBlock (rowsL zs k) xs ∧ Below w.heap.size w wr) (fun _ c _ => lenOf c)
    case atStart => exact ⟨0, _, ca, cc, fc, fun _ => 0, [], Nat.zero_le _, rfl, rfl, hc2, hc1, HRC.out, hidH fun _ => ⟨by omega, hfc2, fun h => by have h2 : w.heap.size = fc := Option.some.inj h; omega, fun j hj => absurd hj (Nat.not_lt_zero _)⟩, HO2.out, InnerR.nil _ _ _ _, HB2.out⟩
    case round =>
      obtain ⟨k, ov, a, cap, fc, f, xs, hk, rfl, rfl, hcm, hlc, hrow, HFC, hown, hin, hb⟩ := hrel
      have HW := hidH hown
      have HI := hidH hin
      have HB := hidH hb
      have HR := hidH hrow
      have hsr := hb.size
      have hdl := difN_length k zs
      clear hown hin hb hrow HRC HO2 HB2
      unfold maxLen at hcm
      by_cases hlt : k < zs.length
      · have hpos : 0 < (difN k zs).length := by omega
        have hsm : (difN k zs).length ≤ 1048576 := by omega
        have HDN := hidH (difN_snoc k zs)
        have HRS := hidH (rowsL_snoc zs k)
        have HKL := hidH (rowsL_length zs k)
        clear hdl
        generalize difN k zs = R at *
        have hdn : (difW R).length < R.length := by rw [difW_length]; omega
        have HDW := hidH hdn
        clear hdn
        go_wp2_with (at_builtin; refine wpList_append_lies _ rfl _ _ 39 rfl w.heap.size 23 j0 (.slice none 0 0) 1 24 Try.underlying39 hj0 hy0 hy1 hy2 rfl (by decide) _ _ _ rfl (HW.out.alloc _) ⟨wr.heap.size, 0, none⟩ 1 1 [.slice a R.length cap] rfl rfl (news_oneV wr _ _) (one_slice _ _ _) (by decide) (by unfold maxLen; omega) (by omega) (by simp; omega) (wr.heap.size + 1) (by simp) ?_)
        intro g5 cap5 w5 hown5 hgrow hat hlt5
        obtain ⟨q1, q2, q3, q4⟩ := HFC.out hlt
        have hal : (wr.alloc (.cells #[.slice a R.length cap] 23)).heap.size = wr.heap.size + 1 := by simp
        have hba : Below wr.heap.size wr (wr.alloc (.cells #[.slice a R.length cap] 23)) := (Below.refl _ wr).alloc (Nat.le_refl _) _
        have hin1 := (HI.out.below hba).snoc (HR.out.below hba) q1 (by omega) q3 (fun j hj => q4 j (by rw [HKL.out] at hj; exact hj))
        have hin5 := hin1.grown hgrow (g := g5) (hat.imp id (fun h => by omega))
        rw [HKL.out, ← HRS.out] at hin5
        have HI5 := hidH hin5
        have HR5 := hidH ((HR.out.below hba).grown hgrow (fun q hq => by have : q ≠ fc := fun e => q3 (by rw [hq, e]); omega))
        have HW5 := hidH hown5
        have hbg : Below w.heap.size wr w5 := ((Below.refl _ wr).alloc hsr _).grown hgrow (by omega) (fun q hq => (HW.out.lt q hq).1)
        have HB5 := hidH (HB.out.trans hbg)
        have s5 := HB5.out.size
        have s5r : wr.heap.size ≤ w5.heap.size := by have := hgrow.size; omega
        have HIO := HI
        clear hown5 hgrow hin1 hin5 hba hbg HI HR HW HB hal
        go_wp2_with fail
        refine (sNext_any (.slice a R.length cap) R w5 _ _ HR5.out.lies hsm).mono ?_; rintro e w6 ⟨v6, rfl, hr6, hb6⟩
        have HB6 := hidH (HB5.out.trans (hb6.mono s5))
        have HI6 := hidH (HI5.out.below hb6)
        have HW6 := hidH (owns_below HW5.out hb6)
        have h65 := hb6.size
        have hR6 := hr6
        rw [← HDN.out] at hR6
        clear hb6 HI5 HW5 HB5 HR5
        by_cases hk2 : k + 1 < zs.length
        · have hl6 : 0 < (difN (k + 1) zs).length := by rw [difN_length]; omega
          obtain ⟨b6, c6, rfl, p1, p2, p3, p4, p5⟩ := hR6.blk hl6
          have HR6 := hidH (p5.row (Nat.le_refl b6) (Nat.lt_succ_self _) p1 p2 rfl)
          have hf6 : ∀ j, j < k + 1 → (if j = k then fc else f j) ≠ b6 := fun j hj => by
            have h := HI6.out.2.2 j _ (rowsL_get zs (k + 1) j hj)
            obtain ⟨_, _, _, hr, _, _, _⟩ := h
            by_cases e : j = k
            · rw [if_pos e]; omega
            · obtain ⟨_, _, _, _, _, hlt6, _⟩ := HIO.out.2.2 j _ (rowsL_get zs k j (by omega))
              rw [if_neg e]; omega
          have HF6 := hidH hf6
          clear hr6 hR6 p5 hf6
          go_wp2_with fail
          go_roundw
          case rel => exact ⟨k + 1, _, _, _, b6, _, _, hlt, rfl, rfl, p2, p1, HR6.out, hidH fun _ => ⟨by omega, p4, fun h => by have h2 : g5 = b6 := Option.some.inj h; omega, HF6.out⟩, HW6.out, HI6.out, HB6.out⟩
          case measure =>
            show (difN (k + 1) zs).length < R.length
            rw [HDN.out]
            exact HDW.out
        · obtain ⟨a6, c6, rfl, p1, p2, p3, _⟩ := hR6
          have hnil : difN (k + 1) zs = [] := List.eq_nil_of_length_eq_zero (by rw [difN_length]; omega)
          have HR6 := hidH (show Row w6 0 (0 + 1) (.slice a6 (difN (k + 1) zs).length c6) (difN (k + 1) zs) from ⟨a6, c6, rfl, p1, p2, p3, fun j z hj => by rw [hnil] at hj; simp at hj⟩)
          clear hr6 hnil
          go_wp2_with fail
          go_roundw
          case rel => exact ⟨k + 1, _, a6, c6, 0, _, _, hlt, rfl, rfl, p2, p1, HR6.out, hidH fun h => absurd h hk2, HW6.out, HI6.out, HB6.out⟩
          case measure =>
            show (difN (k + 1) zs).length < R.length
            rw [HDN.out]
            exact HDW.out
      · obtain rfl : k = zs.length := by omega
        have hz0 : (difN zs.length zs).length = 0 := by omega
        have hll := HI.out.ll HW.out (rowsL_length zs zs.length).symm
        have HLL := hidH hll
        clear hll hdl HI HW HFC
        go_wp2_with fail
        go_ret
        refine ⟨_, rfl, ?_, HB.out⟩
        rw [HA.out]
        exact HLL.out
end Go.Proofs.Ytgenniaklpheoaa
