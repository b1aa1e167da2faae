/-
  The walk of a law: a table of differences begins with the table, each row has one number less, the differences of the row before, and the first numbers are the differences of the table. No conditions but that the bytes that came in can be read.
-/
import Derived.Test.YtgenniaklpheoaaLlU
import Derived.Test.YtgenniaklpheoaaKitW
import Derived.Test.YtgenniaklpheoaaPolyLf
import Derived.Test.YtgenniaklpheoaaPolyL
import Derived.BigQuiet
namespace Go.Proofs.Ytgenniaklpheoaa
set_option maxRecDepth 4000
open Go.RowKit
/-- What a walk reads of one row of a table of differences. -/
theorem LRow.cells {w : World} {b n : Nat} {f : Nat → Nat} {V : List Int} (H : LRow w b f (rowsL V n)) (hn : n = V.length) (k : Nat) (hk : k < n) : ∃ g c L : Nat, w.cell? ⟨b, k, none⟩ = some (.slice (some ⟨g, 0, none⟩) L c) ∧ L ≤ c ∧ c ≤ maxLen ∧ L + k = n ∧ L = (difN k V).length ∧ g < w.heap.size ∧ Row w (f k) (f k + 1) (.slice (some ⟨g, 0, none⟩) L c) (difN k V) ∧ ∀ (j : Nat) x, (difN k V)[j]? = some x → w.cell? ⟨g, j, none⟩ = some (.int .i64 x) := by
  obtain ⟨a, c, hc, _, _, hlt, hr⟩ := H k _ (rowsL_get V n k hk)
  have hl := difN_length k V
  obtain ⟨g, c2, e, h1, h2, _, _, h3⟩ := hr.blk (by omega)
  injection e with e1 e2 e3
  subst e1
  subst e3
  exact ⟨g, c, _, hc, h1, h2, by omega, rfl, h3.1, hr, fun j x hx => (h3.2 j x hx).1⟩
theorem head_get (R : List Int) (h : 0 < R.length) : R[0]? = some (R.headD 0) := by
  cases R with
  | nil => simp at h
  | cons x r => rfl
set_option maxHeartbeats 8000000 in
theorem lawDiffTable (a : Option Addr) (len cap : Nat) (w : World) (hc : Came w a len cap) : Calls Try.prog 8 #[.slice a len cap] w (Gives (.bool true) w) := by
  by_cases hbig : 1048576 < len
  · clear hc
    go_enter Try.func8, Try.ntmps8
    go_wp2
    go_ret
    exact ⟨rfl, Below.refl _ _⟩
  have HD := hidH (drawDiffTable a len cap w hc (by omega))
  clear hc
  go_enter Try.func8, Try.ntmps8
  go_wp2_with fail
  refine HD.out.mono ?_
  rintro e w1 ⟨v, V, rfl, hrow, h61, hb⟩
  have B1 := hidH hb
  have R1 := hidH hrow
  have s1 := hb.size
  obtain ⟨va, vc, rfl, hvl, hvm, hvn, hvcells⟩ := hrow.lies
  unfold maxLen at hvm
  clear hb hrow HD hvn hvcells
  go_wp2_with fail
  refine (diffTable_any _ V w1 _ _ R1.out.lies).mono ?_; rintro e w2 ⟨r, rfl, hr, hb⟩
  have B2 := hidH (B1.out.trans (hb.mono B1.out.size))
  have R2 := hidH (R1.out.below hb)
  have T2 := hidH hr
  have s2 := hb.size
  clear hb hr B1 R1
  go_wp2_with fail
  refine (sDiffTable_any _ V w2 _ _ R2.out.lies).mono ?_; rintro e w3 ⟨u, rfl, hu, hb⟩
  have B3 := hidH (B2.out.trans (hb.mono B2.out.size))
  have R3 := hidH (R2.out.below hb)
  have T3 := hidH (T2.out.below hb)
  have s3 := hb.size
  cases hs : (tableOk V && shortOk V)
  · have e0 := dtA_no V hs
    have ht3 := T3.out
    rw [e0] at ht3 hu
    rcases ht3 with ⟨_, ra, rc, rfl, hrc⟩ | ⟨_, _, _, _, h0, _⟩
    · rcases hu with ⟨_, ua, uc, rfl, huc⟩ | ⟨_, _, _, _, h0, _⟩
      · clear hs e0 T2 T3 hb
        go_wp2_with fail
        go_ret
        exact ⟨rfl, B3.out⟩
      · simp at h0
    · simp at h0
  · have e0 := dtA_yes V hs
    have hs2 := hs
    rw [Bool.and_eq_true] at hs2
    have ⟨l1, _⟩ := tableOk_len V hs2.1
    have l30 : V.length ≤ 30 := of_decide_eq_true hs2.2
    have hda : diffsA V = leadW V.length V := by unfold diffsA; rw [if_pos hs]
    have hu3 := hu
    have ht3 := T3.out
    rw [e0] at ht3 hu3
    clear hs hs2 e0 T2 T3 hu hb R2 B2
    rcases ht3 with ⟨e1, _⟩ | ⟨rb, rc, rf, rfl, h0, hrl, hrm, _, _, hrb, _, _, hRL⟩
    · have := congrArg List.length e1
      rw [rowsL_length, List.length_nil] at this
      omega
    rcases hu3 with ⟨e1, _⟩ | ⟨ub, uc, uf, rfl, _, hul, hum, _, _, hub, _, _, hUL⟩
    · have := congrArg List.length e1
      rw [rowsL_length, List.length_nil] at this
      omega
    rw [rowsL_length] at *
    unfold maxLen at hrm hum
    have HRL := hidH hRL
    have HUL := hidH hUL
    clear hRL hUL
    go_wp2_with fail
    refine (diffsOf_any _ V w3 _ _ R3.out.lies).mono ?_; rintro e w4 ⟨fv, rfl, hf, hb⟩
    rw [hda] at hf
    have hfl : (leadW V.length V).length = V.length := leadW_length _ _
    obtain ⟨fb, fc, rfl, hf1, hf2, _, _, hfk⟩ := hf.blk (by omega)
    rw [hfl] at hf1 ⊢
    unfold maxLen at hf2
    have HFK := hidH hfk
    have B4 := hidH (B3.out.trans (hb.mono B3.out.size))
    have R4 := hidH (R3.out.below hb)
    have HRL4 := hidH (HRL.out.below hrb hb)
    have HUL4 := hidH (HUL.out.below hub hb)
    have hrb4 : rb < w4.heap.size := Nat.lt_of_lt_of_le hrb hb.size
    have hub4 : ub < w4.heap.size := Nat.lt_of_lt_of_le hub hb.size
    clear hf hb hda hfl hfk HRL HUL B3 R3
    go_wp2_with fail
    have HK := hidH fun (W : World) (hb : Below w4.heap.size w4 W) => (below_drewN hb : ∀ q, Below w4.heap.size w4 (W.drewN q))
    go_loopw [7] (fun i wr => ∃ k : Nat, k ≤ V.length ∧ i = .int .i64 k ∧ Below w4.heap.size w4 wr) (fun i _ => V.length - (intOf i).toNat)
    case atStart => exact ⟨0, Nat.zero_le _, rfl, Below.refl _ _⟩
    case round =>
      obtain ⟨k, hk, rfl, hb⟩ := hrel
      obtain ⟨wo, rfl⟩ : ∃ wo, wo = wr := ⟨wr, rfl⟩
      have HB := hidH hb
      clear hb
      by_cases hlt : k < V.length
      · obtain ⟨g, c, L, hcR, hLc, hLm, hLk, hLl, hg, hRow, hcl⟩ := HRL4.out.cells rfl k hlt
        obtain ⟨g2, c2, L2, hcU, hLc2, hLm2, hLk2, hLl2, hg2, hRow2, hcl2⟩ := HUL4.out.cells rfl k hlt
        obtain rfl : L = L2 := by omega
        unfold maxLen at hLm hLm2
        have hL0 : 0 < L := by omega
        have hL0i : (0 : Int) < (L : Int) := by omega
        have hki : (k : Int) < (V.length : Int) := by omega
        have hx := leadW_get V.length k V hlt
        have hF := (HFK.out.2 k _ hx).1
        have hz0 := hcl 0 _ (head_get _ (by rw [← hLl]; exact hL0))
        generalize (difN k V).headD 0 = x at *
        have hwR : wo.cell? ⟨rb, k, none⟩ = some (.slice (some ⟨g, 0, none⟩) L c) := by rw [HB.out.cell (p := ⟨rb, k, none⟩) hrb4]; exact hcR
        have hwU : wo.cell? ⟨ub, k, none⟩ = some (.slice (some ⟨g2, 0, none⟩) L c2) := by rw [HB.out.cell (p := ⟨ub, k, none⟩) hub4]; exact hcU
        have hwF : wo.cell? ⟨fb, k, none⟩ = some (.int .i64 x) := by rw [HB.out.cell (p := ⟨fb, k, none⟩) HFK.out.1]; exact hF
        have hw0 : wo.cell? ⟨g, 0, none⟩ = some (.int .i64 x) := by rw [HB.out.cell (p := ⟨g, 0, none⟩) hg]; exact hz0
        have HR1 := hidH (hRow.below HB.out)
        have HR2 := hidH (hRow2.below HB.out)
        have hne : ((L : Int) != (V.length : Int) - (k : Int)) = false := by
          rw [bne_eq_false_iff_eq]
          omega
        have hwr : IntKind.i64.wrap ((V.length : Int) - (k : Int)) = (V.length : Int) - (k : Int) := IntWalk.i64_in _ (by omega)
        have HLK := hidH hLk
        have HLL := hidH hLl
        have HCR := hidH hcR
        have HCL := hidH hcl
        clear hcR hcU hx hF hz0 hRow hRow2 hLk hLk2 hLl hLl2 hcl hcl2
        go_wp2_with fail
        go_quiet ((go_at_call 14; exact Calls.quiet_of (deInts_quiet _ _ (difN k V) _ _ _ _ _ (HR1.out.below (below_drewN (Below.refl _ _) _)).lies (HR2.out.below (below_drewN (Below.refl _ _) _)).lies)))
        go_wp2_with fail
        clear hwU hwF hw0 hne hwr HR1 HR2
        by_cases hk0 : k = 0
        · subst hk0
          go_loopw [8] (fun i wr => i = .int .i64 0 ∧ Below w4.heap.size w4 wr) (fun _ _ => 0)
          case atStart => exact ⟨rfl, HK.out _ HB.out _⟩
          case round =>
            obtain ⟨rfl, hb⟩ := hrel
            have HB5 := hidH hb
            clear hb
            go_wp2_with fail
            go_roundw
            case rel => exact ⟨1, by omega, rfl, HB5.out⟩
            case measure => simp [intOf]; omega
        · obtain ⟨m, rfl⟩ : ∃ m, k = m + 1 := ⟨k - 1, by omega⟩
          obtain ⟨g3, c3, L3, hcR3, hLc3, hLm3, hLk3, hLl3, hg3, _, hcl3⟩ := HRL4.out.cells rfl m (by omega)
          unfold maxLen at hLm3
          have HL3 := hidH (show L3 = L + 1 by have := HLK.out; omega)
          have HCR3 := hidH hcR3
          have HCL3 := hidH hcl3
          have HLL3 := hidH hLl3
          have hmi : (m : Int) < (V.length : Int) := by omega
          have hmn : m < V.length := by omega
          have hL31 : L < L3 := by have := HL3.out; omega
          clear hwR hcR3 hcl3 hLl3 hLk3
          go_loopw [8] (fun i wr => ∃ j : Nat, j ≤ L ∧ i = .int .i64 j ∧ Below w4.heap.size w4 wr) (fun i _ => L - (intOf i).toNat)
          case atStart => exact ⟨0, Nat.zero_le _, rfl, HK.out _ HB.out _⟩
          case round =>
            obtain ⟨j, hj, rfl, hb⟩ := hrel
            have HB5 := hidH hb
            clear hb
            have hwR : wr.cell? ⟨rb, m + 1, none⟩ = some (.slice (some ⟨g, 0, none⟩) L c) := by rw [HB5.out.cell (p := ⟨rb, m + 1, none⟩) hrb4]; exact HCR.out
            by_cases hjl : j < L
            · have hwR3 : wr.cell? ⟨rb, m, none⟩ = some (.slice (some ⟨g3, 0, none⟩) L3 c3) := by rw [HB5.out.cell (p := ⟨rb, m, none⟩) hrb4]; exact HCR3.out
              obtain ⟨y0, hy0⟩ := get_lt (difN m V) j (by rw [← HLL3.out]; omega)
              obtain ⟨y1, hy1⟩ := get_lt (difN m V) (j + 1) (by rw [← HLL3.out]; omega)
              have hz : (difN (m + 1) V)[j]? = some (wrap64 (y1 - y0)) := by rw [difN_snoc]; exact difW_get _ _ _ _ hy0 hy1
              have hw1 : wr.cell? ⟨g, j, none⟩ = some (.int .i64 (wrap64 (y1 - y0))) := by rw [HB5.out.cell (p := ⟨g, j, none⟩) hg]; exact HCL.out _ _ hz
              have hw2 : wr.cell? ⟨g3, j, none⟩ = some (.int .i64 y0) := by rw [HB5.out.cell (p := ⟨g3, j, none⟩) hg3]; exact HCL3.out _ _ hy0
              have hw3 : wr.cell? ⟨g3, j + 1, none⟩ = some (.int .i64 y1) := by rw [HB5.out.cell (p := ⟨g3, j + 1, none⟩) hg3]; exact HCL3.out _ _ hy1
              have hzw : IntKind.i64.wrap (y1 - y0) = wrap64 (y1 - y0) := wrap_64 _
              generalize wrap64 (y1 - y0) = z at *
              have hji : (j : Int) < (L : Int) := by omega
              have hj3 : (j : Int) < (L3 : Int) := by omega
              have hj31 : (j : Int) + 1 < (L3 : Int) := by omega
              have hj31n : j + 1 < L3 := by omega
              have v1 : IntKind.i64.wrap ((j : Int) + 1) = (j : Int) + 1 := IntWalk.i64_in _ (by omega)
              have v2 : IntKind.i64.wrap (m : Int) = (m : Int) := IntWalk.i64_in _ (by omega)
              clear hy0 hy1 hz
              go_wp2_with fail
              go_quiet (fail)
              go_wp2_with fail
              go_roundw
              case rel => exact ⟨j + 1, by omega, by go_num, HK.out _ HB5.out _⟩
              case measure => simp [intOf]; omega
            · obtain rfl : j = L := by omega
              go_wp2_with fail
              go_roundw
              case rel => exact ⟨m + 1 + 1, by omega, by go_num, HB5.out⟩
              case measure => simp [intOf]; omega
      · obtain rfl : k = V.length := by omega
        obtain ⟨g, c, L, hcR, hLc, hLm, hLk, hLl, hg, hRow, _⟩ := HRL4.out.cells rfl 0 (by omega)
        obtain rfl : L = V.length := by omega
        have hwR : wo.cell? ⟨rb, 0, none⟩ = some (.slice (some ⟨g, 0, none⟩) V.length c) := by rw [HB.out.cell (p := ⟨rb, 0, none⟩) hrb4]; exact hcR
        have hli : Lies w4 (rf 0) (rf 0 + 1) (.slice (some ⟨g, 0, none⟩) V.length c) V := hRow.lies
        have HLI := hidH hli
        have hV0 : (0 : Int) < (V.length : Int) := by omega
        clear hcR hRow hli hLk hLl
        go_wp2_with fail
        refine (deInts_yes (.slice (some ⟨g, 0, none⟩) V.length c) (.slice va V.length vc) V wo _ _ _ _ (HLI.out.below HB.out) (R4.out.below HB.out).lies).mono ?_; rintro e w5 ⟨rfl, hb⟩
        have HB5 := hidH (HB.out.trans (hb.mono HB.out.size))
        clear hb
        go_wp2_with fail
        go_ret
        exact ⟨rfl, B4.out.trans (HB5.out.mono B4.out.size)⟩
end Go.Proofs.Ytgenniaklpheoaa
