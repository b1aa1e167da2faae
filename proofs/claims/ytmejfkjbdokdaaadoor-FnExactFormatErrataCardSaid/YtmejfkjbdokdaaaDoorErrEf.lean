/-
  The validity of errata: the model. Condition: at most 1048576 errata.
-/
import Derived.Test.YtmejfkjbdokdaaaDoorErrEe
import Derived.BigQuiet
namespace Go.Proofs.YtmejfkjbdokdaaaDoor
set_option maxRecDepth 4000
open Go.RowKit
theorem appL_above (zs F : List Int) : ∀ k, okEs F k = true → ∀ i : Nat, eLeast F k ≤ (i : Int) → (appL zs F k)[i]? = zs[i]? := by
  intro k
  induction k with
  | zero => intro _ i _; rfl
  | succ k ih =>
    intro h i hi
    rw [okEs, Bool.and_eq_true] at h
    have h1 := ((okE_iff F k).1 h.2).1
    have h0 := (least_nn F k h.1).1
    rw [eLeast] at hi
    rw [appL, List.getElem?_set, if_neg (by omega), ih h.1 i (by omega)]
set_option maxHeartbeats 3200000 in
theorem sErrValid_any (v : Value) (n : Nat) (F : List Int) (w : World) (lo hi : Nat) (hv : Lies3 w lo hi v n F) (hn : n ≤ 1048576) : Calls Tryd.prog 18 #[v] w (Gives (.bool (okEs F n)) w) := by
  by_cases h0 : n = 0
  · subst h0
    obtain ⟨a, cap, rfl, _, hcm⟩ := lies3_len hv
    unfold maxLen at hcm
    clear hv
    go_enter Tryd.func18, Tryd.ntmps18
    go_wp2_with fail
    go_loopw [3] (fun i wr => i = .int .i64 0 ∧ w = wr) (fun _ _ => 0)
    case atStart => exact ⟨rfl, rfl⟩
    case round =>
      obtain ⟨rfl, rfl⟩ := hrel
      go_wp2_with fail
      go_ret
      exact ⟨rfl, Below.refl _ _⟩
  · obtain ⟨b0, off0, cap0, rfl, hnc, hcm, hbw, hcl⟩ := lies3_cells hv (by omega)
    have HCL := hidH hcl
    unfold maxLen at hcm
    clear hcl hv
    go_enter Tryd.func18, Tryd.ntmps18
    go_wp2_with fail
    go_loopw [3] (fun i wr => ∃ k : Nat, k ≤ n ∧ i = .int .i64 k ∧ okEs F k = true ∧ Below w.heap.size w wr) (fun i _ => n - (intOf i).toNat)
    case atStart => exact ⟨0, Nat.zero_le _, rfl, rfl, Below.refl _ _⟩
    case round =>
      obtain ⟨k, hk, rfl, hok, hb⟩ := hrel
      have HB := hidH hb
      have HOK := hidH hok
      have ⟨hls1, hls2⟩ := least_nn F k hok
      clear hb hok
      by_cases hlt : k < n
      · have hcA : wr.cell? ⟨b0, off0 + k * 3, none⟩ = some (.int .i64 (eAt F k)) := by rw [HB.out.cell (p := ⟨b0, off0 + k * 3, none⟩) hbw]; exact (HCL.out k hlt).1
        have hcW : wr.cell? ⟨b0, off0 + k * 3 + 1, none⟩ = some (.int .i64 (eWr F k)) := by rw [HB.out.cell (p := ⟨b0, off0 + k * 3 + 1, none⟩) hbw]; exact (HCL.out k hlt).2.1
        have hcR : wr.cell? ⟨b0, off0 + k * 3 + 2, none⟩ = some (.int .i64 (eRi F k)) := by rw [HB.out.cell (p := ⟨b0, off0 + k * 3 + 2, none⟩) hbw]; exact (HCL.out k hlt).2.2
        have HSTEP := hidH (okEs_step F k HOK.out)
        have HIF := hidH (okE_iff F k)
        have HNO := hidH (fun (h : okE F k = true → False) => okEs_no F k (Bool.eq_false_iff.2 h) n hlt)
        have HBM := hidH (bMore HB.out (.cells #[.int .i64 (eAt F k), .int .i64 (eWr F k), .int .i64 (eRi F k)] 40))
        have hsz := HB.out.size
        by_cases hk0 : k = 0
        · have hle : eLeast F k = 0 := by rw [hk0]; rfl
          rw [hle] at HIF
          clear hle hls1 hls2
          have hdk : decide (0 < k) = false := decide_eq_false (by omega)
          clear hk0
          generalize eAt F k = x at *
          generalize eWr F k = y at *
          generalize eRi F k = z at *
          have HAY := hidH (fun W => (sAmt4_any y W).mono (fun e w' h => (⟨h.1, h.2.symm⟩ : e = .returned (.bool (inB 1000000000 y)) ∧ w' = W)))
          have HAZ := hidH (fun W => (sAmt4_any z W).mono (fun e w' h => (⟨h.1, h.2.symm⟩ : e = .returned (.bool (inB 1000000000 z)) ∧ w' = W)))
          cases ci : decide (0 ≤ x ∧ x ≤ 59)
          · have HIN := hidH (fun W => (sIn_any x 0 59 false ci W).mono (fun e w' h => (⟨h.1, h.2.symm⟩ : e = .returned (.bool false) ∧ w' = W)))
            have hno := hidH (HNO.out (fun h => of_decide_eq_false ci (by have := (HIF.out.1 h).1; omega)))
            clear ci
            go_wp2_with fail
            go_quiet ((first
              | (go_at_call 34; exact Calls.quiet_of_same (HIN.out _))
              | (go_at_call 35; exact Calls.quiet_of_same (HAY.out _))
              | (go_at_call 35; exact Calls.quiet_of_same (HAZ.out _))))
            go_wp2_with fail
            go_ret
            exact ⟨by rw [hno.out]; rfl, below_drewN HBM.out _⟩
          · have HIN := hidH (fun W => (sIn_any x 0 59 true ci W).mono (fun e w' h => (⟨h.1, h.2.symm⟩ : e = .returned (.bool true) ∧ w' = W)))
            have c1' : 0 ≤ x := (of_decide_eq_true ci).1
            have c2' : x < 60 := by have := (of_decide_eq_true ci).2; omega
            clear ci
            by_cases c3 : y = z
            · have hno := hidH (HNO.out (fun h => (HIF.out.1 h).2.1 c3))
              subst c3
              go_wp2_with fail
              go_quiet ((first
                | (go_at_call 34; exact Calls.quiet_of_same (HIN.out _))
                | (go_at_call 35; exact Calls.quiet_of_same (HAY.out _))
                | (go_at_call 35; exact Calls.quiet_of_same (HAZ.out _))))
              go_wp2_with fail
              go_ret
              exact ⟨by rw [hno.out]; rfl, below_drewN HBM.out _⟩
            · have cb : (y == z) = false := beq_eq_false_iff_ne.2 c3
              cases c4 : inB 1000000000 y
              · have hno := hidH (HNO.out (fun h => by have := (HIF.out.1 h).2.2.1; rw [c4] at this; cases this))
                rw [c4] at HAY
                clear c4
                go_wp2_with fail
                go_quiet ((first
                  | (go_at_call 34; exact Calls.quiet_of_same (HIN.out _))
                  | (go_at_call 35; exact Calls.quiet_of_same (HAY.out _))
                  | (go_at_call 35; exact Calls.quiet_of_same (HAZ.out _))))
                go_wp2_with fail
                go_ret
                exact ⟨by rw [hno.out]; rfl, below_drewN HBM.out _⟩
              · cases c5 : inB 1000000000 z
                · have hno := hidH (HNO.out (fun h => by have := (HIF.out.1 h).2.2.2; rw [c5] at this; cases this))
                  rw [c4] at HAY
                  rw [c5] at HAZ
                  clear c4 c5
                  go_wp2_with fail
                  go_quiet ((first
                    | (go_at_call 34; exact Calls.quiet_of_same (HIN.out _))
                    | (go_at_call 35; exact Calls.quiet_of_same (HAY.out _))
                    | (go_at_call 35; exact Calls.quiet_of_same (HAZ.out _))))
                  go_wp2_with fail
                  go_ret
                  exact ⟨by rw [hno.out]; rfl, below_drewN HBM.out _⟩
                · have HSN := hidH (HSTEP.out (HIF.out.2 ⟨⟨c1', c2'⟩, c3, c4, c5⟩))
                  rw [c4] at HAY
                  rw [c5] at HAZ
                  clear c4 c5 c3
                  go_wp2_with fail
                  go_quiet ((first
                    | (go_at_call 34; exact Calls.quiet_of_same (HIN.out _))
                    | (go_at_call 35; exact Calls.quiet_of_same (HAY.out _))
                    | (go_at_call 35; exact Calls.quiet_of_same (HAZ.out _))))
                  go_wp2_with fail
                  go_roundw
                  case rel => exact ⟨k + 1, by omega, by go_num, HSN.out, below_drewN HBM.out _⟩
                  case measure => simp [intOf]; omega
        · obtain ⟨m, hm⟩ : ∃ m, m + 1 = k := ⟨k - 1, by omega⟩
          have hle : eLeast F k = eAt F m + 1 := by rw [← hm]; rfl
          have hcP : wr.cell? ⟨b0, off0 + m * 3, none⟩ = some (.int .i64 (eAt F m)) := by rw [HB.out.cell (p := ⟨b0, off0 + m * 3, none⟩) hbw]; exact (HCL.out m (by omega)).1
          rw [hle] at HIF hls1 hls2
          clear hle
          have hdk : decide (0 < k) = true := decide_eq_true (by omega)
          have hkm : (k : Int) - 1 = (m : Int) := by omega
          have HMM := hidH hm
          clear hm
          generalize eAt F m = xp at *
          generalize eAt F k = x at *
          generalize eWr F k = y at *
          generalize eRi F k = z at *
          have hcPA : (wr.alloc (.cells #[.int .i64 x, .int .i64 y, .int .i64 z] 40)).cell? ⟨b0, off0 + m * 3, none⟩ = some (.int .i64 xp) := by rw [World.cell?_alloc_some _ _ _ (by rw [hcP]; rfl)]; exact hcP
          have HAY := hidH (fun W => (sAmt4_any y W).mono (fun e w' h => (⟨h.1, h.2.symm⟩ : e = .returned (.bool (inB 1000000000 y)) ∧ w' = W)))
          have HAZ := hidH (fun W => (sAmt4_any z W).mono (fun e w' h => (⟨h.1, h.2.symm⟩ : e = .returned (.bool (inB 1000000000 z)) ∧ w' = W)))
          have hmn : m < n := by have := HMM.out; omega
          have hwm : IntKind.i64.wrap (m : Int) = (m : Int) := IntWalk.i64_in _ (by omega)
          cases ci : decide (0 ≤ x ∧ x ≤ 59)
          · have HIN := hidH (fun W => (sIn_any x 0 59 false ci W).mono (fun e w' h => (⟨h.1, h.2.symm⟩ : e = .returned (.bool false) ∧ w' = W)))
            have hno := hidH (HNO.out (fun h => of_decide_eq_false ci (by have := (HIF.out.1 h).1; omega)))
            clear ci
            go_wp2_with fail
            go_quiet ((first
              | (go_at_call 34; exact Calls.quiet_of_same (HIN.out _))
              | (go_at_call 35; exact Calls.quiet_of_same (HAY.out _))
              | (go_at_call 35; exact Calls.quiet_of_same (HAZ.out _))))
            go_wp2_with fail
            go_ret
            exact ⟨by rw [hno.out]; rfl, below_drewN HBM.out _⟩
          · have HIN := hidH (fun W => (sIn_any x 0 59 true ci W).mono (fun e w' h => (⟨h.1, h.2.symm⟩ : e = .returned (.bool true) ∧ w' = W)))
            have c1a : 0 ≤ x := (of_decide_eq_true ci).1
            have c2' : x < 60 := by have := (of_decide_eq_true ci).2; omega
            clear ci
            by_cases c1 : x ≤ xp
            · have hno := hidH (HNO.out (fun h => by have := (HIF.out.1 h).1; omega))
              have hdp : decide (x ≤ xp) = true := decide_eq_true c1
              go_wp2_with fail
              go_quiet ((first
                | (go_at_call 34; exact Calls.quiet_of_same (HIN.out _))
                | (go_at_call 35; exact Calls.quiet_of_same (HAY.out _))
                | (go_at_call 35; exact Calls.quiet_of_same (HAZ.out _))))
              go_wp2_with fail
              go_ret
              exact ⟨by rw [hno.out]; rfl, below_drewN HBM.out _⟩
            · have c1' : xp + 1 ≤ x := by omega
              have hdp : decide (x ≤ xp) = false := decide_eq_false c1
              by_cases c3 : y = z
              · have hno := hidH (HNO.out (fun h => (HIF.out.1 h).2.1 c3))
                subst c3
                go_wp2_with fail
                go_quiet ((first
                  | (go_at_call 34; exact Calls.quiet_of_same (HIN.out _))
                  | (go_at_call 35; exact Calls.quiet_of_same (HAY.out _))
                  | (go_at_call 35; exact Calls.quiet_of_same (HAZ.out _))))
                go_wp2_with fail
                go_ret
                exact ⟨by rw [hno.out]; rfl, below_drewN HBM.out _⟩
              · have cb : (y == z) = false := beq_eq_false_iff_ne.2 c3
                cases c4 : inB 1000000000 y
                · have hno := hidH (HNO.out (fun h => by have := (HIF.out.1 h).2.2.1; rw [c4] at this; cases this))
                  rw [c4] at HAY
                  clear c4
                  go_wp2_with fail
                  go_quiet ((first
                    | (go_at_call 34; exact Calls.quiet_of_same (HIN.out _))
                    | (go_at_call 35; exact Calls.quiet_of_same (HAY.out _))
                    | (go_at_call 35; exact Calls.quiet_of_same (HAZ.out _))))
                  go_wp2_with fail
                  go_ret
                  exact ⟨by rw [hno.out]; rfl, below_drewN HBM.out _⟩
                · cases c5 : inB 1000000000 z
                  · have hno := hidH (HNO.out (fun h => by have := (HIF.out.1 h).2.2.2; rw [c5] at this; cases this))
                    rw [c4] at HAY
                    rw [c5] at HAZ
                    clear c4 c5
                    go_wp2_with fail
                    go_quiet ((first
                      | (go_at_call 34; exact Calls.quiet_of_same (HIN.out _))
                      | (go_at_call 35; exact Calls.quiet_of_same (HAY.out _))
                      | (go_at_call 35; exact Calls.quiet_of_same (HAZ.out _))))
                    go_wp2_with fail
                    go_ret
                    exact ⟨by rw [hno.out]; rfl, below_drewN HBM.out _⟩
                  · have HSN := hidH (HSTEP.out (HIF.out.2 ⟨⟨c1', c2'⟩, c3, c4, c5⟩))
                    rw [c4] at HAY
                    rw [c5] at HAZ
                    clear c4 c5 c3
                    go_wp2_with fail
                    go_quiet ((first
                      | (go_at_call 34; exact Calls.quiet_of_same (HIN.out _))
                      | (go_at_call 35; exact Calls.quiet_of_same (HAY.out _))
                      | (go_at_call 35; exact Calls.quiet_of_same (HAZ.out _))))
                    go_wp2_with fail
                    go_roundw
                    case rel => exact ⟨k + 1, by omega, by go_num, HSN.out, below_drewN HBM.out _⟩
                    case measure => simp [intOf]; omega
      · obtain rfl : k = n := by omega
        have HR := hidH HOK.out
        go_wp2_with fail
        go_ret
        exact ⟨by rw [HR.out]; rfl, HB.out⟩
end Go.Proofs.YtmejfkjbdokdaaaDoor
