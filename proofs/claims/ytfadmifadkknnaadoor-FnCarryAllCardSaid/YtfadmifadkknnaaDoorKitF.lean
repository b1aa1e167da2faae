/-
  The drawn arguments of CarryOnce and CarryAll: a column, and marks that are sometimes none. Conditions: at most 1048576 bytes, which can be read.
-/
import Derived.Test.YtfadmifadkknnaaDoorKitE
import Derived.Deep.RegionWith
namespace Go.Proofs.YtfadmifadkknnaaDoor
open Go.RowKit
/-- What makes marks none. -/
def tails2 : List ByteArray := [⟨#[50]⟩, ⟨#[48]⟩, ⟨#[120]⟩]
set_option maxHeartbeats 1600000 in
theorem drawCarryOnce_any (a : Option Addr) (len cap : Nat) (w : World) (hl : len ≤ 1048576) (hcap : len ≤ cap) (hcap2 : cap ≤ 9223372036854775807) (hb : Bytes w a len) (hnil : a = none → cap = 0) : Calls Tryd.prog 19 #[.slice a len cap] w (DrawnTT w) := by
  have HO := hidH (open_any a len cap w hl hcap hcap2 hb hnil)
  clear hb hnil
  go_enter Tryd.func19, Tryd.ntmps19
  go_wp2_with fail
  refine HO.out.mono ?_
  rintro e w1 ⟨rfl, hR, hB⟩
  have HR := hidH hR
  have HB := hidH hB
  clear hR hB HO
  go_wp2_with fail
  refine (any_any w.heap.size 0 w1 HR.out (by omega)).mono ?_
  rintro e w2 ⟨n, n1, n2, rfl, hR2, hO2⟩
  have R2 := hidH hR2
  have O2 := hidH hO2
  clear hR2 hO2 HR
  go_wp2_with fail
  refine (some_any n w.heap.size _ w2 R2.out (by omega) n1 n2).mono ?_
  rintro e w3 ⟨s, hs, rfl, hR3, hO3⟩
  have R3 := hidH hR3
  have O3 := hidH (O2.out.trans hO3)
  clear hR3 hO3 R2 O2
  go_wp2_with fail
  refine (bad_any s hs w.heap.size _ w3 R3.out (by omega)).mono ?_
  rintro e w4 ⟨t, ht, rfl, hR4, hO4⟩
  have R4 := hidH hR4
  have O4 := hidH (O3.out.trans hO4)
  clear hR4 hO4 R3 O3
  have hmk := run_make_row' (P := Tryd.prog) 22 5 (.int .u8 0) 1 Tryd.underlying22 info5 rfl .i64 .i64 n (by omega) (by omega) w4
  have hlt4 := R4.out.lt
  have HR0 := hidH (R4.out.onto ((Below.refl w4.heap.size w4).alloc (Nat.le_refl _) (.cells (byteC n []) 5)))
  have HF := hidH (RowB.fresh w4 n)
  have HO0 := hidH ((Onto.refl w.heap.size w4).alloc (.cells (byteC n []) 5))
  rw [byteC_made] at hmk
  generalize (w4.alloc (.cells (byteC n []) 5)) = w5 at *
  go_wp2
  clear hmk
  go_loopw [8] (fun i wr => ∃ k : Nat, k ≤ n ∧ i = .int .i64 k ∧ Rd wr w.heap.size (0 + 1 + 25 + 2 + k) ∧ RowB wr w4.heap.size n ∧ Onto w.heap.size w4 wr) (fun i _ => n - (intOf i).toNat)
  case atStart => exact ⟨0, Nat.zero_le _, rfl, HR0.out, HF.out, HO0.out⟩
  case round =>
    obtain ⟨k, hk, rfl, hR, hB, hO⟩ := hrel
    have HR1 := hidH hR
    have HB1 := hidH hB
    have HO1 := hidH hO
    clear hR hB hO HR0 HF HO0
    by_cases hlt : k < n
    · go_wp2_with fail
      refine (pick_any 2 w.heap.size _ _ HR1.out (by omega)).mono ?_
      rintro e w6 ⟨x, rfl, x0, x1, hR2, hO2⟩
      have HR2 := hidH hR2
      have HO2 := hidH (HO1.out.trans hO2)
      have HB2 := hidH (HB1.out.onto hO2 (by omega))
      have x2 := x1 (by omega)
      clear x1 hR2 hO2 HR1 HB1 HO1
      have ⟨⟨y, y0, y1, hc⟩, hf⟩ := HB2.out.2 k hlt
      go_wp2_with fail
      refine ⟨⟨k + 1, by omega, by go_num, ?_, ?_, ?_⟩, ?_⟩
      · exact (HR2.out.set hlt4 _ _).more (by omega)
      · exact HB2.out.set k _ (by omega) (by omega)
      · exact HO2.out.setNew (Nat.le_refl _) _ _
      · simp [intOf]; omega
    · obtain rfl : k = n := by omega
      have HB3 := hidH (HB.out.trans (O4.out.below (Nat.le_refl _) HB.out.size))
      clear HB O4 R4
      go_wp2_with fail
      refine (pick_any 24 w.heap.size _ _ HR1.out (by omega)).mono ?_
      rintro e w6 ⟨x, rfl, x0, x1, hR2, hO2⟩
      have HR2 := hidH hR2
      have HO2 := hidH (HO1.out.trans hO2)
      have HBd := hidH ((HB1.out.onto hO2 (by omega)).drewN 1)
      obtain ⟨m, hm, hcv⟩ := conv_row w6.drew w4.heap.size k HBd.out
      clear x1 hR2 hO2 HR1 HB1 HO1
      by_cases e0 : x = 0
      · have b0 : (x == 0) = true := beq_iff_eq.2 e0
        clear e0
        go_wp2_with fail
        have HC1 := hidH (show Rd (w6.alloc (.cells (strC tails2) 9)).drew w.heap.size (0 + 1 + 25 + 2 + k + 1) from Rd.drewN (HR2.out.onto ((Below.refl w6.heap.size w6).alloc (Nat.le_refl _) (.cells (strC tails2) 9))) 1)
        have HC2 := hidH (show Strs (w6.alloc (.cells (strC tails2) 9)).drew w.heap.size ⟨w6.heap.size, 0, none⟩ tails2 from strs_new _ _ _ _ HR2.out.lt)
        have HC3 := hidH (show RowB (w6.alloc (.cells (strC tails2) 9)).drew w4.heap.size k from RowB.drewN (RowB.onto (w := w6) (w' := w6.alloc (.cells (strC tails2) 9)) (r := w.heap.size) HBd.out ((Onto.refl _ w6).alloc (.cells (strC tails2) 9)) (by omega)) 1)
        have HC4 := hidH (show Onto w.heap.size w4 (w6.alloc (.cells (strC tails2) 9)).drew from Onto.drewN (HO2.out.trans ((Onto.refl _ w6).alloc (.cells (strC tails2) 9))) 1)
        obtain ⟨m1, hm1, hcv1⟩ := conv_row (w6.alloc (.cells (strC tails2) 9)).drew w4.heap.size k HC3.out
        rw [show strC tails2 = #[.string ⟨#[50]⟩, .string ⟨#[48]⟩, .string ⟨#[120]⟩] from rfl] at hcv1
        have hzs : Hid (∀ z ∈ tails2, z.size = 1) := hidH fun z hz => by
          have h : tails2.all (fun z => decide (z.size = 1)) = true := by decide
          exact of_decide_eq_true (List.all_eq_true.1 h z hz)
        clear HR2 HO2 HBd
        go_region_with (go_at_call 43; refine (of_any w6.heap.size 0 tails2 w.heap.size _ _ HC1.out (by omega) (by decide) (by decide) HC2.out).mono ?_; rintro e w7 ⟨z, hz, rfl, hR3, hO3⟩; (have hz1 := hzs.out z hz); (have H7 := hidH (HC4.out.trans hO3)); (obtain ⟨m2, hm2, hcv2⟩ := conv_row w7 w4.heap.size k (HC3.out.onto hO3 (by omega))); clear hz hR3 hO3)
        all_goals
          go_wp2
          first | go_ret | go_ret2
          refine ⟨t, _, by omega, ?_, rfl, HB3.out.trans (H7.out.below (Nat.le_refl _) HB3.out.size)⟩
          rw [ByteArray.size_append]
          omega
      · have b0 : (x == 0) = false := beq_eq_false_iff_ne.2 e0
        clear e0
        go_wp2
        go_region
        go_wp2
        first | go_ret | go_ret2
        exact ⟨t, m, by omega, by omega, rfl, below_drewN (HB3.out.trans (HO2.out.below (Nat.le_refl _) HB3.out.size)) 1⟩
theorem drawCarryAll_any (a : Option Addr) (len cap : Nat) (w : World) (hl : len ≤ 1048576) (hcap : len ≤ cap) (hcap2 : cap ≤ 9223372036854775807) (hb : Bytes w a len) (hnil : a = none → cap = 0) : Calls Tryd.prog 22 #[.slice a len cap] w (DrawnTT w) := by
  have HO := hidH (drawCarryOnce_any a len cap w hl hcap hcap2 hb hnil)
  clear hb hnil
  go_enter Tryd.func22, Tryd.ntmps22
  go_wp2_with fail
  refine HO.out.mono ?_
  rintro e w1 ⟨s, t, hs, ht, rfl, hB⟩
  go_wp2
  first | go_ret | go_ret2
  exact ⟨s, t, hs, ht, rfl, hB⟩
end Go.Proofs.YtfadmifadkknnaaDoor
