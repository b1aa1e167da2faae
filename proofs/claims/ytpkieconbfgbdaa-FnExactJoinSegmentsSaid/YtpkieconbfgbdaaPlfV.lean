/-
  The walk of the exact law of GreedyPlan. Condition: slices of at most 1048576 numbers.
-/
import Derived.Test.YtpkieconbfgbdaaPlfR
import Derived.Test.YtpkieconbfgbdaaSl
import Derived.Test.YtpkieconbfgbdaaPlanSg
namespace Go.Proofs.Ytpkieconbfgbdaa
set_option maxRecDepth 4000
open Go.RowKit
theorem resL_le (l : List Int) : (resL l).length ≤ l.length := by unfold resL; split <;> simp
theorem interA_7 (zs : List Int) : (interA zs).length ≤ 7 := by
  unfold interA
  split
  · rename_i h
    refine Nat.le_trans (resL_le _) ?_
    rw [leadW_length]
    have ⟨a, b⟩ := of_decide_eq_true h
    unfold interN
    omega
  · simp
theorem segP_7 (zs : List Int) (f c d : Int) : (segP zs f c d).length ≤ 7 := by
  unfold segP
  split
  · exact interA_7 _
  · simp
theorem lenS_le (cs : List (Int × List Int)) (m : Nat) (h : ∀ c ys, (c, ys) ∈ cs → ys.length ≤ m) : lenS cs ≤ cs.length * m := by
  induction cs with
  | nil => simp [lenS]
  | cons s cs ih =>
    have h1 := h s.1 s.2 List.mem_cons_self
    have h2 := ih fun c ys hm => h c ys (List.mem_cons_of_mem _ hm)
    unfold lenS at *
    rw [List.map_cons, List.sum_cons, List.length_cons, Nat.succ_mul]
    omega
theorem plF_7 (zs : List Int) (d f i : Nat) (c : Int) (ys : List Int) (h : (c, ys) ∈ plF zs d f i) : ys.length ≤ 7 := by
  induction f generalizing i with
  | zero => cases h
  | succ f ih =>
    rw [plF] at h
    split at h
    · rcases List.mem_cons.1 h with e | e
      · injection e with e1 e2
        rw [e2]
        exact segP_7 _ _ _ _
      · exact ih _ e
    · cases h
theorem greedyG_tot (zs : List Int) (d : Int) : totS (greedyG zs d) ≤ 1048576 := by
  have h1 := greedyG_small zs d
  have h2 := lenS_le (greedyG zs d) 7 fun c ys h => by
    unfold greedyG at h
    split at h
    · exact plF_7 _ _ _ _ _ _ h
    · cases h
  unfold totS
  omega
set_option maxHeartbeats 1600000 in
theorem exGreedyPlan (v : Value) (zs : List Int) (n1 : Int) (w : World) (hv : Lies w 0 w.heap.size v zs) : Calls Try.prog 3 #[v, .int .i64 n1] w (Gives (.bool true) w) := by
  have HV := hidH hv
  obtain ⟨a, cap, rfl, hlc, hcm, hnil, hcell⟩ := hv
  clear hnil hcell
  unfold maxLen at hcm
  by_cases hbig : 1048576 < zs.length
  · go_enter Try.func3, Try.ntmps3
    go_wp2
    go_ret
    exact ⟨rfl, Below.refl _ _⟩
  have hl1 : zs.length ≤ 1048576 := by omega
  clear hbig
  have hT : True := trivial
  go_enter Try.func3, Try.ntmps3
  have B0 := hidH (Below.refl w.heap.size w)
  have s0 : w.heap.size ≤ w.heap.size := Nat.le_refl _
  go_wp2_with fail
  refine (toInts_any _ zs _ ((HV.out.below B0.out).mono (Nat.le_refl _) B0.out.size) hl1).mono ?_; rintro e w1 ⟨t, rfl, hr, hb⟩
  have B1 := hidH (bThen B0.out hb)
  have s1 := hb.size
  have T_1 := hidH hr
  clear hb B0  hr
  go_wp2_with fail
  refine (sGreedyW_any _ zs n1 _ _ _ T_1.out.lies).mono ?_; rintro e w2 ⟨u, rfl, hr, hb⟩
  have B2 := hidH (bThen B1.out hb)
  have s2 := hb.size
  have T_2 := hidH (T_1.out.below hb)
  have W_2 := hidH hr
  clear hb B1 T_1 hr
  clear T_2
  go_wp2_with fail
  refine (toInts_any _ zs _ ((HV.out.below B2.out).mono (Nat.le_refl _) B2.out.size) hl1).mono ?_; rintro e w3 ⟨x, rfl, hr, hb⟩
  have B3 := hidH (bThen B2.out hb)
  have s3 := hb.size
  have W_3 := hidH (W_2.out.below hb)
  have X_3 := hidH hr
  clear hb B2 W_2 hr
  go_wp2_with fail
  refine (greedyW_any _ zs n1 _ _ _ X_3.out.lies).mono ?_; rintro e w4 ⟨g, rfl, hr, hb⟩
  have B4 := hidH (bThen B3.out hb)
  have s4 := hb.size
  have W_4 := hidH (W_3.out.below hb)
  have X_4 := hidH (X_3.out.below hb)
  have G_4 := hidH hr
  clear hb B3 W_3 X_3 hr
  have hlen := greedyG_tot zs n1
  have hlen1 := show (greedyG zs n1).length ≤ 1048576 from by have := hlen; unfold totS at this; omega
  generalize hrs : (greedyG zs n1) = rs at *
  have HRS := hidH hrs
  clear hrs
  generalize hrb : (smallOk zs && degOk n1) = rb at *
  have HRB := hidH hrb
  clear hrb
  go_wp2_with fail
  refine (eqSg_yes g u rs _ _ _ G_4.out.lies W_4.out.lies hlen1).mono ?_; rintro e w5 ⟨rfl, hb⟩
  have B5 := hidH (bThen B4.out hb)
  have s5 := hb.size
  have W_5 := hidH (W_4.out.below hb)
  have X_5 := hidH (X_4.out.below hb)
  have G_5 := hidH (G_4.out.below hb)
  clear hb B4 W_4 X_4 G_4
  go_wp2_with fail
  refine (toInts_any _ zs _ ((HV.out.below B5.out).mono (Nat.le_refl _) B5.out.size) hl1).mono ?_; rintro e w6 ⟨y, rfl, hr, hb⟩
  have B6 := hidH (bThen B5.out hb)
  have s6 := hb.size
  have W_6 := hidH (W_5.out.below hb)
  have X_6 := hidH (X_5.out.below hb)
  have G_6 := hidH (G_5.out.below hb)
  have Y_6 := hidH hr
  clear hb B5 W_5 X_5 G_5 hr
  go_wp2_with fail
  refine (eqInts_yes x y zs _ _ _ _ _ X_6.out.lies Y_6.out.lies).mono ?_; rintro e w7 ⟨rfl, hb⟩
  have B7 := hidH (bThen B6.out hb)
  have s7 := hb.size
  have W_7 := hidH (W_6.out.below hb)
  have X_7 := hidH (X_6.out.below hb)
  have G_7 := hidH (G_6.out.below hb)
  have Y_7 := hidH (Y_6.out.below hb)
  clear hb B6 W_6 X_6 G_6 Y_6
  clear Y_7
  go_wp2_with fail
  refine (mark_any x zs 1 _ _ _ X_7.out (by omega) (by omega) hl1).mono ?_; rintro e w8 ⟨rfl, hr, ha⟩
  have s8 := ha.size
  have B8 := hidH (B7.out.trans (ha.below (by have := B7.out.size; omega) B7.out.size))
  have W_8 := hidH (W_7.out.apart ha (by omega))
  have G_8 := hidH (G_7.out.apart ha (by omega))
  have X_8 := hidH hr
  clear ha B7 W_7 X_7 G_7 hr
  clear X_8
  go_wp2_with fail
  refine (eqSg_yes g u rs _ _ _ G_8.out.lies W_8.out.lies hlen1).mono ?_; rintro e w9 ⟨rfl, hb⟩
  have B9 := hidH (bThen B8.out hb)
  have s9 := hb.size
  have W_9 := hidH (W_8.out.below hb)
  have G_9 := hidH (G_8.out.below hb)
  clear hb B8 W_8 G_8
  go_wp2_with fail
  refine (markAp_any g rs 1 _ _ _ G_9.out (by omega) (by omega) hlen).mono ?_; rintro e w10 ⟨rfl, hr, ha⟩
  have s10 := ha.size
  have B10 := hidH (B9.out.trans (ha.below (by have := B9.out.size; omega) B9.out.size))
  have W_10 := hidH (W_9.out.apart ha (by omega))
  have G_10 := hidH hr
  clear ha B9 W_9 G_9 hr
  go_wp2_with fail
  refine (heldSg_any g rs 1 _ _ G_10.out.lies (by omega) (by omega) hlen).mono ?_; rintro e w11 ⟨rfl, hb⟩
  have B11 := hidH (bThen B10.out hb)
  have s11 := hb.size
  have W_11 := hidH (W_10.out.below hb)
  have G_11 := hidH (G_10.out.below hb)
  clear hb B10 W_10 G_10
  go_wp2_with fail
  refine (toInts_any _ zs _ ((HV.out.below B11.out).mono (Nat.le_refl _) B11.out.size) hl1).mono ?_; rintro e w12 ⟨t2, rfl, hr, hb⟩
  have B12 := hidH (bThen B11.out hb)
  have s12 := hb.size
  have W_12 := hidH (W_11.out.below hb)
  have G_12 := hidH (G_11.out.below hb)
  have T_12 := hidH hr
  clear hb B11 W_11 G_11 hr
  go_wp2_with fail
  refine (greedyW_any _ zs n1 _ _ _ T_12.out.lies).mono ?_; rintro e w13 ⟨h, rfl, hr, hb⟩
  rw [HRS.out] at hr
  rw [HRB.out]
  have B13 := hidH (bThen B12.out hb)
  have s13 := hb.size
  have W_13 := hidH (W_12.out.below hb)
  have G_13 := hidH (G_12.out.below hb)
  have T_13 := hidH (T_12.out.below hb)
  have H_13 := hidH hr
  clear hb B12 W_12 G_12 T_12 hr
  go_wp2_with fail
  refine (eqSg_yes h u rs _ _ _ H_13.out.lies W_13.out.lies hlen1).mono ?_; rintro e w14 ⟨rfl, hb⟩
  have B14 := hidH (bThen B13.out hb)
  have s14 := hb.size
  have W_14 := hidH (W_13.out.below hb)
  have G_14 := hidH (G_13.out.below hb)
  have T_14 := hidH (T_13.out.below hb)
  have H_14 := hidH (H_13.out.below hb)
  clear hb B13 W_13 G_13 T_13 H_13
  go_wp2_with fail
  refine (heldSg_any g rs 1 _ _ G_14.out.lies (by omega) (by omega) hlen).mono ?_; rintro e w15 ⟨rfl, hb⟩
  have B15 := hidH (bThen B14.out hb)
  have s15 := hb.size
  have W_15 := hidH (W_14.out.below hb)
  have G_15 := hidH (G_14.out.below hb)
  have T_15 := hidH (T_14.out.below hb)
  have H_15 := hidH (H_14.out.below hb)
  clear hb B14 W_14 G_14 T_14 H_14
  go_wp2_with fail
  go_ret
  exact ⟨rfl, B15.out⟩
end Go.Proofs.Ytpkieconbfgbdaa
