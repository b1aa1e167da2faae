/-
  The walk of a law: if a table has a polynomial, this has all its numbers as values, the least degree as degree, and without its highest difference it has other values. No conditions but that the bytes that came in can be read.
-/
import Derived.Test.YtgenniaklpheoaaKitW
import Derived.Test.YtgenniaklpheoaaDeFns
import Derived.Test.YtgenniaklpheoaaPolyAn
import Derived.Test.YtgenniaklpheoaaPolyLc
import Derived.Test.YtgenniaklpheoaaPolyD
import Derived.Deep.RegionWith
namespace Go.Proofs.Ytgenniaklpheoaa
set_option maxRecDepth 4000
open Go.RowKit
theorem evA_in (P : List Int) (n : Nat) (hp : polyOk P = true) (hn : n ≤ 200) : evA P n = evP P n := by
  unfold evA
  rw [hp, Bool.true_and, if_pos]
  unfold inB
  simp
  omega
/-- So far the values are the same, if it is said so. -/
def SameTo (V few : List Int) (k : Nat) (bq : Bool) : Prop := bq = true → ∀ j, j < k → V[j]? = some (evP few (j : Nat))
set_option maxHeartbeats 4000000 in
theorem lawLeastDegree (a : Option Addr) (len cap : Nat) (w : World) (hc : Came w a len cap) : Calls Try.prog 9 #[.slice a len cap] w (Gives (.bool true) w) := by
  by_cases hbig : 1048576 < len
  · clear hc
    go_enter Try.func9, Try.ntmps9
    go_wp2
    go_ret
    exact ⟨rfl, Below.refl _ _⟩
  have HD := hidH (drawLeastDegree a len cap w hc (by omega))
  clear hc
  go_enter Try.func9, Try.ntmps9
  go_wp2_with fail
  refine HD.out.mono ?_
  rintro e w1 ⟨v, V, rfl, hrow, h61, hb⟩
  have B1 := hidH hb
  have R1 := hidH hrow
  have s1 := hb.size
  obtain ⟨va, vc, rfl, hvl, hvm, hvn, hvcells⟩ := hrow.lies
  unfold maxLen at hvm
  clear hb hrow HD hvn hvcells
  have HL := hidH fun (W : World) (lo hi : Nat) (hv : Lies W lo hi (.slice va V.length vc) V) => least_any _ V W lo hi hv
  have HS := hidH fun (W : World) (lo hi : Nat) (hv : Lies W lo hi (.slice va V.length vc) V) => sLeast_any _ V W lo hi hv
  have HI := hidH fun (W : World) (lo hi : Nat) (hv : Lies W lo hi (.slice va V.length vc) V) => inter_any _ V W lo hi hv
  cases hok : interOk V
  · have hno : leastL V < -1 ∨ (-1 ≤ leastL V ∧ 6 < leastL V) := by
      have := of_decide_eq_false hok
      omega
    clear hok HI
    generalize leastL V = k at *
    rcases hno with hno | ⟨hno1, hno⟩
    all_goals
      go_wp2_with fail
      refine (HL.out _ _ _ R1.out.lies).mono ?_; rintro e w2 ⟨rfl, hb⟩
      have B2 := hidH (B1.out.trans (hb.mono B1.out.size))
      have R2 := hidH (R1.out.below hb)
      clear hb
      go_wp2_with fail
      refine (HS.out _ _ _ R2.out.lies).mono ?_; rintro e w3 ⟨rfl, hb⟩
      have B3 := hidH (B2.out.trans (hb.mono B2.out.size))
      have R3 := hidH (R2.out.below hb)
      clear hb
      go_wp2_with fail
      refine (HS.out _ _ _ R3.out.lies).mono ?_; rintro e w4 ⟨rfl, hb⟩
      have B4 := hidH (B3.out.trans (hb.mono B3.out.size))
      clear hb
      go_wp2_with fail
      go_ret
      exact ⟨rfl, B4.out⟩
  · cases hib : interB V
    · have h0 := inter_no V hok hib
      obtain ⟨T, eT, h7, _⟩ := least_spec V hok
      have k6 : leastL V ≤ 6 := by omega
      rw [hib] at HI
      generalize interA V = P at *
      clear hok hib eT h7
      generalize leastL V = k at *
      go_wp2_with fail
      refine (HL.out _ _ _ R1.out.lies).mono ?_; rintro e w2 ⟨rfl, hb⟩
      have B2 := hidH (B1.out.trans (hb.mono B1.out.size))
      have R2 := hidH (R1.out.below hb)
      clear hb
      go_wp2_with fail
      refine (HS.out _ _ _ R2.out.lies).mono ?_; rintro e w3 ⟨rfl, hb⟩
      have B3 := hidH (B2.out.trans (hb.mono B2.out.size))
      have R3 := hidH (R2.out.below hb)
      clear hb
      go_wp2_with fail
      refine (HI.out _ _ _ R3.out.lies).mono ?_; rintro e w4 ⟨p, rfl, _, hb⟩
      have B4 := hidH (B3.out.trans (hb.mono B3.out.size))
      clear hb
      go_wp2_with fail
      go_ret
      exact ⟨rfl, B4.out⟩
    · obtain ⟨T, P, eA, eT, h7, hPl, hpok, hdeg, hval, hfew, l60⟩ := inter_yes V hib
      rw [hib, eA] at HI
      obtain ⟨k, hkT⟩ : ∃ k : Int, k = (T : Int) - 1 := ⟨_, rfl⟩
      rw [← hkT] at eT hdeg
      have hk1 : -1 ≤ k := by omega
      have hk6 : k ≤ 6 := by omega
      rw [eT] at HL HS
      have HKT := hidH hkT
      clear hkT
      have HVAL := hidH hval
      have HFEW := hidH hfew
      have HOK := hidH hpok
      have hPl7 : 1 ≤ P.length ∧ P.length ≤ 7 := by omega
      have HPL := hidH hPl
      obtain ⟨hP1, hP7⟩ := hPl7
      have HDg := hidH fun (W : World) (q : Value) (lo hi : Nat) (hv : Lies W lo hi q P) => degree_any q P W lo hi hv
      rw [hdeg] at HDg
      have HSM := hidH (polyOk_small P hpok).2
      clear hok hib eA eT hval hfew hpok hdeg hPl
      go_wp2_with fail
      refine (HL.out _ _ _ R1.out.lies).mono ?_; rintro e w2 ⟨rfl, hb⟩
      have B2 := hidH (B1.out.trans (hb.mono B1.out.size))
      have R2 := hidH (R1.out.below hb)
      clear hb B1 R1
      go_wp2_with fail
      refine (HS.out _ _ _ R2.out.lies).mono ?_; rintro e w3 ⟨rfl, hb⟩
      have B3 := hidH (B2.out.trans (hb.mono B2.out.size))
      have R3 := hidH (R2.out.below hb)
      clear hb B2 R2
      go_wp2_with fail
      refine (HI.out _ _ _ R3.out.lies).mono ?_; rintro e w4 ⟨p, rfl, hr, hb⟩
      have B4 := hidH (B3.out.trans (hb.mono B3.out.size))
      have R4 := hidH (R3.out.below hb)
      obtain ⟨pb, pc, rfl, hpl, hpm, _, _, hpk⟩ := hr.blk (by omega)
      unfold maxLen at hpm
      have P4 := hidH hr
      clear hb B3 R3 HI HS HL hr hpk
      have HAT := hidH fun (n : Nat) (hn : n ≤ 200) (W : World) (hb : Below w4.heap.size w4 W) => (at_any (.slice (some ⟨pb, 0, none⟩) P.length pc) P n W _ _ (P4.out.below hb).lies).mono fun e w' (h : Gives _ W e w') => (⟨by rw [h.1, evA_in P n HOK.out hn], hb.trans (h.2.mono hb.size)⟩ : e = .returned (.int .i64 (evP P n)) ∧ Below w4.heap.size w4 w')
      go_wp2_with fail
      go_loopw [7] (fun i wr => ∃ k : Nat, k ≤ V.length ∧ i = .int .i64 k ∧ Below w4.heap.size w4 wr) (fun i _ => V.length - (intOf i).toNat)
      case atStart => exact ⟨0, Nat.zero_le _, rfl, Below.refl _ _⟩
      case round =>
        obtain ⟨k, hk, rfl, hb⟩ := hrel
        have HBc := hidH hb
        clear hb
        by_cases hlt : k < V.length
        · obtain ⟨bv, ov, cv, hve, _, _, _, _, hbv, hcell⟩ := R4.out.lies.addr (by omega)
          injection hve with e1 e2 e3
          subst e1
          subst e3
          have hx := HVAL.out k hlt
          have HC0 := hidH (hcell k _ hx)
          have HA0 := hidH (HAT.out k (by omega))
          have hcw : wr.cell? ⟨bv, ov + k, none⟩ = some (.int .i64 (evP P k)) := by rw [HBc.out.cell (p := ⟨bv, ov + k, none⟩) hbv]; exact HC0.out
          clear hcell hx
          generalize evP P k = x at *
          go_wp2_with fail
          go_region_with (go_at_call 15; (with_reducible refine (HA0.out _ (by first | exact HBc.out | exact HBc.out.drew)).mono ?_); rintro e wd ⟨rfl, hbd⟩; have HBc := hidH hbd; have hcd : wd.cell? ⟨bv, ov + k, none⟩ = some (.int .i64 x) := (by rw [HBc.out.cell (p := ⟨bv, ov + k, none⟩) hbv]; exact HC0.out); clear hbd)
          all_goals
            go_wp2_with fail
            go_roundw
            case rel => exact ⟨k + 1, by omega, by go_num, by first | exact HBc.out | exact HBc.out.drew⟩
            case measure => simp [intOf]; omega
        · obtain rfl : k = V.length := by omega
          have BQ := hidH (B4.out.trans (HBc.out.mono B4.out.size))
          have HBw := HBc
          have PQ := hidH (P4.out.below HBc.out)
          clear HBc P4 B4
          by_cases h0 : T = 0
          · have hkT := HKT.out
            obtain rfl : k = -1 := by omega
            clear hkT
            go_wp2_with fail
            refine (HDg.out _ _ _ _ PQ.out.lies).mono ?_; rintro e w5 ⟨rfl, hb⟩
            have B5 := hidH (BQ.out.trans (hb.mono BQ.out.size))
            clear hb
            go_wp2_with fail
            go_ret
            exact ⟨rfl, B5.out⟩
          · obtain ⟨m, rfl⟩ : ∃ m, T = m + 1 := ⟨T - 1, by omega⟩
            have hkT := HKT.out
            have hm0 : (m + 1 : Nat) - 1 = m := rfl
            obtain rfl : k = (m : Int) := by omega
            rw [hm0] at HFEW
            obtain ⟨wo, rfl⟩ : ∃ wo, wo = wr := ⟨wr, rfl⟩
            have hPm : P.length = m + 1 := by have := HPL.out; omega
            have HPm := hidH hPm
            have hm6 : m ≤ 6 := by omega
            have hflen : (P.take m).length = m := by rw [List.length_take]; omega
            have hblk := PQ.out
            obtain ⟨b2, c2, hbe, _, _, _, hpb2, hpk⟩ := hblk.blk (by omega)
            injection hbe with hb1 hb2 hb3
            injection hb1 with hb1
            injection hb1 with hb1
            subst hb1
            subst hb3
            have HCM := hidH (cells_map (zs := P.take m) (b := pb) (off := 0) (w := wo) fun j z hj => by
              rw [List.getElem?_take] at hj
              by_cases hjm : j < m
              · rw [if_pos hjm] at hj
                rw [Nat.zero_add]
                exact (hpk.2 j z hj).1
              · rw [if_neg hjm] at hj
                cases hj)
            have HO := hidH (oneCells (P.take m))
            have HLN := hidH (show (ints (P.take m)).length = m * 1 by rw [ints_length, hflen, Nat.mul_one])
            obtain ⟨i0, hi0, hz0, hz1, hz2⟩ := info_parts infoInt
            have hmc : m ≤ pc := by omega
            have hml : (m : Int) ≤ (P.length : Int) := by omega
            have HFL := hidH hflen
            clear hkT hm0 hpk hblk hflen hPm
            generalize hfw : P.take m = few at *
            have HFW := hidH hfw
            clear hfw
            go_wp2_with (at_builtin; refine wpList_append_own _ rfl _ _ 23 rfl wo.heap.size 3 i0 (.int .i64 0) 1 8 Try.underlying23 hi0 hz0 hz1 hz2 rfl (by decide) _ _ _ rfl (World.ownsRow_made wo #[] 0 (Nat.le_refl _) (Nat.zero_le _) rfl) ⟨pb, 0, none⟩ m pc (ints few) rfl HLN.out (HCM.out _ ((Below.refl _ _).alloc (Nat.le_refl _) _)) HO.out (by unfold maxLen; omega) (by omega) (by simp) ?_)
            intro v' w5 hown hgrow _
            have hrf := (row_of_owns hown).1
            have hb5 : Below wo.heap.size wo w5 := ((Below.refl _ wo).alloc (Nat.le_refl _) _).grown hgrow (by simp) (by intro k hk; simp [Value.ownBlock] at hk; omega)
            have RF := hidH hrf
            have B5 := hidH (BQ.out.trans (hb5.mono BQ.out.size))
            have P5 := hidH (PQ.out.below hb5)
            have R5 := hidH ((R4.out.below HBw.out).below hb5)
            have HDr := hidH fun (W : World) (hb : Below w5.heap.size w5 W) => HDg.out W _ _ _ (P5.out.below hb).lies
            obtain ⟨fa, fc, hfe, _⟩ := hrf.lies
            subst hfe
            have hflm : few.length = m := HFL.out
            clear hown hgrow hrf hb5 BQ PQ HDg HCM HLN HO hi0 hz0
            by_cases hm1 : m = 0
            · have hf0 : few.length = 0 := by omega
              subst hm1
              obtain rfl : few = [] := List.eq_nil_of_length_eq_zero hf0
              clear hf0 hflm
              go_wp2_with fail
              go_loopw [9, 10] (fun q i wr => q = .bool false ∧ i = .int .i64 0 ∧ w5 = wr) (fun _ _ _ => 0)
              case atStart => exact ⟨rfl, rfl, rfl⟩
              case round =>
                obtain ⟨rfl, rfl, rfl⟩ := hrel
                by_cases hV0 : 0 < V.length
                all_goals
                  go_wp2_with fail
                  refine (HDr.out _ (Below.refl _ _)).mono ?_; rintro e w6 ⟨rfl, hb⟩
                  have B6 := hidH (B5.out.trans (hb.mono B5.out.size))
                  clear hb
                  go_wp2_with fail
                  go_ret
                  exact ⟨rfl, B6.out⟩
            · have hfok : polyOk few = true := by
                refine (listOk_iff _ _ _).2 ⟨by omega, by omega, fun x hx => ?_⟩
                rw [← HFW.out] at hx
                exact HSM.out.2 x (List.mem_of_mem_take hx)
              have hfl0 : (0 : Int) < (m : Int) := by omega
              have HAF := hidH fun (n : Nat) (hn : n ≤ 200) (W : World) (hb : Below w5.heap.size w5 W) => (at_any (.slice fa few.length fc) few n W _ _ (RF.out.below hb).lies).mono fun e w' (h : Gives _ W e w') => (⟨by rw [h.1, evA_in few n hfok hn], hb.trans (h.2.mono hb.size)⟩ : e = .returned (.int .i64 (evP few n)) ∧ Below w5.heap.size w5 w')
              rw [hflm] at HAF
              have hnall := HFEW.out (by omega)
              have HNA := hidH hnall
              clear hfok hnall HFEW
              rw [hflm]
              go_wp2_with fail
              go_loopw [9, 10] (fun q i wr => ∃ (k : Nat) (bq : Bool), k ≤ V.length ∧ i = .int .i64 k ∧ q = .bool bq ∧ Hid (SameTo V few k bq) ∧ Below w5.heap.size w5 wr) (fun _ i _ => V.length - (intOf i).toNat)
              case atStart => exact ⟨0, true, Nat.zero_le _, rfl, by rw [decide_eq_true (show 0 < m by omega)], hidH (show SameTo V few 0 true from fun _ j hj => absurd hj (Nat.not_lt_zero _)), Below.refl _ _⟩
              case round =>
                obtain ⟨k, bq, hk, rfl, rfl, HQ, hb⟩ := hrel
                have HBc := hidH hb
                clear hb
                cases bq with
                | false =>
                  clear HQ
                  by_cases hlt : k < V.length
                  all_goals
                    go_wp2_with fail
                    refine (HDr.out _ HBc.out).mono ?_; rintro e w6 ⟨rfl, hb⟩
                    have B6 := hidH (B5.out.trans ((HBc.out.trans (hb.mono HBc.out.size)).mono B5.out.size))
                    clear hb
                    go_wp2_with fail
                    go_ret
                    exact ⟨rfl, B6.out⟩
                | true =>
                  by_cases hlt : k < V.length
                  · obtain ⟨bv, ov, cv, hve, _, _, _, _, hbv, hcell⟩ := R5.out.lies.addr (by omega)
                    injection hve with e1 e2 e3
                    subst e1
                    subst e3
                    obtain ⟨y, hy⟩ := get_lt V k hlt
                    have HC0 := hidH (hcell k _ hy)
                    have HA0 := hidH (HAF.out k (by omega))
                    have hcw : wr.cell? ⟨bv, ov + k, none⟩ = some (.int .i64 y) := by rw [HBc.out.cell (p := ⟨bv, ov + k, none⟩) hbv]; exact HC0.out
                    have HY := hidH hy
                    clear hcell hy
                    by_cases hxy : evP few (k : Nat) = y
                    · have HN := hidH (show SameTo V few (k + 1) true from fun _ j hj => by
                        by_cases hjk : j = k
                        · rw [hjk, HY.out, hxy]
                        · exact HQ.out rfl j (by omega))
                      rw [hxy] at HA0
                      clear hxy HY HQ
                      go_wp2_with fail
                      go_region_with (go_at_call 15; (with_reducible refine (HA0.out _ (by first | exact HBc.out | exact HBc.out.drew)).mono ?_); rintro e wd ⟨rfl, hbd⟩; have HBc := hidH hbd; have hcd : wd.cell? ⟨bv, ov + k, none⟩ = some (.int .i64 y) := (by rw [HBc.out.cell (p := ⟨bv, ov + k, none⟩) hbv]; exact HC0.out); clear hbd)
                      all_goals
                        go_wp2_with fail
                        go_roundw
                        case rel => exact ⟨k + 1, true, by omega, by go_num, rfl, HN, by first | exact HBc.out | exact HBc.out.drew⟩
                        case measure => simp [intOf]; omega
                    · have hxb : (evP few (k : Nat) == y) = false := beq_eq_false_iff_ne.2 hxy
                      clear hxy HY HQ
                      generalize evP few (k : Nat) = x at *
                      go_wp2_with fail
                      go_region_with (go_at_call 15; (with_reducible refine (HA0.out _ (by first | exact HBc.out | exact HBc.out.drew)).mono ?_); rintro e wd ⟨rfl, hbd⟩; have HBc := hidH hbd; have hcd : wd.cell? ⟨bv, ov + k, none⟩ = some (.int .i64 y) := (by rw [HBc.out.cell (p := ⟨bv, ov + k, none⟩) hbv]; exact HC0.out); clear hbd)
                      all_goals
                        go_wp2_with fail
                        go_roundw
                        case rel => exact ⟨k + 1, false, by omega, by go_num, rfl, hidH (show SameTo V few (k + 1) false from fun h => absurd h (by decide)), by first | exact HBc.out | exact HBc.out.drew⟩
                        case measure => simp [intOf]; omega
                  · obtain rfl : k = V.length := by omega
                    exact absurd (HQ.out rfl) HNA.out
end Go.Proofs.Ytgenniaklpheoaa
