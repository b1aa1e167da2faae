/-
  JoinSegments: the model, at every argument, and the walk of the exact law. Condition: not more numbers than the laws let through.
-/
import Derived.Test.YtpkieconbfgbdaaSplF
import Derived.Test.YtpkieconbfgbdaaSplE
namespace Go.Proofs.Ytpkieconbfgbdaa
set_option maxRecDepth 4000
open Go.RowKit
set_option maxHeartbeats 3200000 in
theorem sRawJoin_any (v : Value) (cs : List (Int × List Int)) (i d : Int) (w : World) (h1 : Nat) (hv : LiesSg w h1 v cs) (hn : cs.length ≤ 1048576) (hz : ∀ c zs, (c, zs) ∈ cs → zs.length ≤ 1048576) : Calls Try.prog 50 #[v, .int .i64 i, .int .i64 d] w fun e w' => ∃ u, e = .returned (.tuple #[u, .bool (joinB cs i d)]) ∧ LiesSg w' w'.heap.size u (joinA cs i d) ∧ Below w.heap.size w w' := by
  have HOW := hidH (ownSgs_any v cs w h1 hv hn hz)
  obtain ⟨av, cap, rfl, hlc, hcm⟩ := hv.len
  unfold maxLen at hcm
  clear hv hz
  cases hp : planOk cs
  · have hjb := joinB_no1 i d hp
    rw [joinB_no hjb, hjb]
    have HP := hidH hp
    clear hjb hp
    go_enter Try.func50, Try.ntmps50
    go_wp2_with fail
    refine HOW.out.mono ?_; rintro e w1 ⟨v1, rfl, hr, hb⟩
    have HR1 := hidH hr.lies
    have HB1 := hidH hb
    obtain ⟨a1, cap1, rfl, hc1, hc2⟩ := hr.form
    have HC2 := hidH hc2
    unfold maxLen at hc2
    clear hr hb
    go_wp2_with fail
    refine (sPlanValid_any _ cs w1 _ HR1.out hn).mono ?_; rintro e w2 ⟨rfl, hb⟩
    rw [HP.out]
    have HB2 := hidH (bThen HB1.out hb)
    have HR2 := hidH (HR1.out.below hb)
    clear hb HB1 HR1
    go_wp2_with fail
    go_ret2
    exact ⟨_, rfl, ⟨_, 0, rfl, Nat.zero_le _, Nat.zero_le _, fun _ => rfl, fun _ _ _ h => by simp at h⟩, bMore HB2.out _⟩
  · have HP := hidH hp
    clear hp
    obtain ⟨hl1, hl60, _⟩ := planOk_seg HP.out
    cases hd : degOk d
    · have hjb := joinB_no3 cs i hd
      rw [joinB_no hjb, hjb]
      have HD := hidH hd
      clear hjb hd
      go_enter Try.func50, Try.ntmps50
      go_wp2_with fail
      refine HOW.out.mono ?_; rintro e w1 ⟨v1, rfl, hr, hb⟩
      have HR1 := hidH hr.lies
      have HB1 := hidH hb
      obtain ⟨a1, cap1, rfl, hc1, hc2⟩ := hr.form
      have HC2 := hidH hc2
      unfold maxLen at hc2
      clear hr hb
      go_wp2_with fail
      refine (sPlanValid_any _ cs w1 _ HR1.out hn).mono ?_; rintro e w2 ⟨rfl, hb⟩
      rw [HP.out]
      have HB2 := hidH (bThen HB1.out hb)
      have HR2 := hidH (HR1.out.below hb)
      clear hb HB1 HR1
      go_wp2_with fail
      refine (sDeg4_any d _).mono ?_; rintro e w3 ⟨rfl, rfl⟩
      rw [HD.out]
      go_wp2_with fail
      go_ret2
      exact ⟨_, rfl, ⟨_, 0, rfl, Nat.zero_le _, Nat.zero_le _, fun _ => rfl, fun _ _ _ h => by simp at h⟩, bMore HB2.out _⟩
    · have HD := hidH hd
      clear hd
      by_cases hi : 0 ≤ i ∧ i < (cs.length : Int) - 1
      rotate_left
      · have hjb := joinB_no2 cs d hi
        rw [joinB_no hjb, hjb]
        have HIN := hidH (fun W => sIn_any i 0 ((cs.length : Int) - 2) false (decide_eq_false (by omega)) W)
        clear hjb hi
        go_enter Try.func50, Try.ntmps50
        go_wp2_with fail
        refine HOW.out.mono ?_; rintro e w1 ⟨v1, rfl, hr, hb⟩
        have HR1 := hidH hr.lies
        have HB1 := hidH hb
        obtain ⟨a1, cap1, rfl, hc1, hc2⟩ := hr.form
        have HC2 := hidH hc2
        unfold maxLen at hc2
        clear hr hb
        go_wp2_with fail
        refine (sPlanValid_any _ cs w1 _ HR1.out hn).mono ?_; rintro e w2 ⟨rfl, hb⟩
        rw [HP.out]
        have HB2 := hidH (bThen HB1.out hb)
        have HR2 := hidH (HR1.out.below hb)
        clear hb HB1 HR1
        go_wp2_with fail
        refine (sDeg4_any d _).mono ?_; rintro e w3 ⟨rfl, rfl⟩
        rw [HD.out]
        go_wp2_with fail
        refine (HIN.out _).mono ?_; rintro e w4 ⟨rfl, rfl⟩
        go_wp2_with fail
        go_ret2
        exact ⟨_, rfl, ⟨_, 0, rfl, Nat.zero_le _, Nat.zero_le _, fun _ => rfl, fun _ _ _ h => by simp at h⟩, bMore HB2.out _⟩
      · obtain ⟨k, rfl⟩ : ∃ k : Nat, i = (k : Int) := ⟨i.toNat, by omega⟩
        have hk : k + 2 ≤ cs.length := by omega
        have HIN := hidH (fun W => sIn_any (k : Int) 0 ((cs.length : Int) - 2) true (decide_eq_true (by omega)) W)
        clear hi
        obtain ⟨so1, so2, so3, so4⟩ := sub_ok HP.out hk
        have SO1 := hidH so1
        have SO3 := hidH so3
        obtain ⟨jb, ja⟩ := joinB_at d HP.out hk
        rw [HD.out, Bool.true_and] at jb
        have HJA := hidH ja
        have HRI := hidH (show runB (joinV cs k) d = true → runA (joinV cs k) d = interA (joinV cs k) from fun h => by
          unfold runB at h
          rw [Bool.and_eq_true, decide_eq_true_eq] at h
          unfold runA
          rw [if_pos h.1])
        have HJP := hidH (fun h => join_polys (d := d) HP.out (k := k) h)
        obtain ⟨q, hq⟩ : ∃ q, q = k + 2 := ⟨_, rfl⟩
        have hqi2 : (k : Int) + 2 = (q : Int) := by omega
        have hqk : q - k = 2 := by omega
        have hqn : q ≤ cs.length := by omega
        have HQ := hidH hq
        have hkq : k ≤ q := by omega
        clear so1 so2 so3 ja hq
        cases hr : runB (joinV cs k) d
        · rw [jb, hr]
          have e0 := joinB_no (jb.trans hr)
          rw [e0]
          have HRB := hidH hr
          clear e0 jb hr
          go_enter Try.func50, Try.ntmps50
          go_wp2_with fail
          refine HOW.out.mono ?_; rintro e w1 ⟨v1, rfl, hr, hb⟩
          have HR1 := hidH hr.lies
          have HB1 := hidH hb
          obtain ⟨a1, cap1, rfl, hc1, hc2⟩ := hr.form
          have HC2 := hidH hc2
          unfold maxLen at hc2
          clear hr hb
          go_wp2_with fail
          refine (sPlanValid_any _ cs w1 _ HR1.out hn).mono ?_; rintro e w2 ⟨rfl, hb⟩
          rw [HP.out]
          have HB2 := hidH (bThen HB1.out hb)
          have HR2 := hidH (HR1.out.below hb)
          clear hb HB1 HR1
          go_wp2_with fail
          refine (sDeg4_any d _).mono ?_; rintro e w3 ⟨rfl, rfl⟩
          rw [HD.out]
          go_wp2_with fail
          refine (HIN.out _).mono ?_; rintro e w4 ⟨rfl, rfl⟩
          obtain ⟨b, off, cap2, us, e, _, _, hpf, hcf⟩ := HR2.out.part (by omega)
          injection e with e1 e2 e3
          subst e1 e3
          clear e2
          have HSU := hidH (HR2.out.cut k 2 (cap1 - k) hk (by omega) (Nat.le_trans (Nat.sub_le _ _) HC2.out))
          have HPF := hidH hpf
          have HCF := hidH hcf
          have hqc : q ≤ cap1 := by omega
          have hkc : k ≤ cap1 := by omega
          have hck : ¬ cap1 = k := by omega
          clear hpf hcf
          go_wp2_with fail
          refine (l5Values_any _ _ w2 _ HSU.out SO1.out).mono ?_; rintro e w5 ⟨v5, rfl, hr, hb⟩
          have HV5 := hidH (show Row w5 w2.heap.size w5.heap.size v5 (joinV cs k) from hr)
          have HB5 := hidH (bThen HB2.out hb)
          have HPF5 := hidH (HPF.out.below hb)
          have HCF5 := hidH (HCF.out.below hb)
          have HR5 := hidH (HR2.out.below hb)
          have hrs : Row w5 w2.heap.size w5.heap.size v5 (joinV cs k) := hr
          obtain ⟨va, vc, rfl⟩ := hrs.some
          clear hb hr hrs HSU HPF HCF HR2 HB2
          go_wp2_with fail
          refine (sRun_any _ (joinV cs k) d w5 _ _ HV5.out.lies).mono ?_; rintro e w6 ⟨r, rfl, hr, hb⟩
          rw [HRB.out]
          have HB6 := hidH (bThen HB5.out hb)
          have HPF6 := hidH (HPF5.out.below hb)
          have HCF6 := hidH (HCF5.out.below hb)
          have HR6 := hidH (HR5.out.below hb)
          clear hb hr
          go_wp2_with fail
          go_ret2
          exact ⟨_, rfl, ⟨_, 0, rfl, Nat.zero_le _, Nat.zero_le _, fun _ => rfl, fun _ _ _ h => by simp at h⟩, bMore HB6.out _⟩
        · have e0 := HJA.out (jb.trans hr)
          rw [jb, hr, e0]
          obtain ⟨GG, hGG⟩ : ∃ GG, GG = cs.take k ++ [(((joinV cs k).length : Int), interA (joinV cs k))] ++ cs.drop (k + 2) := ⟨_, rfl⟩
          rw [← hGG]
          have HGG := hidH hGG
          clear hGG
          have HRB := hidH hr
          have HRJ := hidH (HRI.out hr)
          clear e0 jb hr
          go_enter Try.func50, Try.ntmps50
          go_wp2_with fail
          refine HOW.out.mono ?_; rintro e w1 ⟨v1, rfl, hr, hb⟩
          have HR1 := hidH hr.lies
          have HB1 := hidH hb
          obtain ⟨a1, cap1, rfl, hc1, hc2⟩ := hr.form
          have HC2 := hidH hc2
          unfold maxLen at hc2
          clear hr hb
          go_wp2_with fail
          refine (sPlanValid_any _ cs w1 _ HR1.out hn).mono ?_; rintro e w2 ⟨rfl, hb⟩
          rw [HP.out]
          have HB2 := hidH (bThen HB1.out hb)
          have HR2 := hidH (HR1.out.below hb)
          clear hb HB1 HR1
          go_wp2_with fail
          refine (sDeg4_any d _).mono ?_; rintro e w3 ⟨rfl, rfl⟩
          rw [HD.out]
          go_wp2_with fail
          refine (HIN.out _).mono ?_; rintro e w4 ⟨rfl, rfl⟩
          obtain ⟨b, off, cap2, us, e, _, _, hpf, hcf⟩ := HR2.out.part (by omega)
          injection e with e1 e2 e3
          subst e1 e3
          clear e2
          have HSU := hidH (HR2.out.cut k 2 (cap1 - k) hk (by omega) (Nat.le_trans (Nat.sub_le _ _) HC2.out))
          have HPF := hidH hpf
          have HCF := hidH hcf
          have hqc : q ≤ cap1 := by omega
          have hkc : k ≤ cap1 := by omega
          have hck : ¬ cap1 = k := by omega
          clear hpf hcf
          go_wp2_with fail
          refine (l5Values_any _ _ w2 _ HSU.out SO1.out).mono ?_; rintro e w5 ⟨v5, rfl, hr, hb⟩
          have HV5 := hidH (show Row w5 w2.heap.size w5.heap.size v5 (joinV cs k) from hr)
          have HB5 := hidH (bThen HB2.out hb)
          have HPF5 := hidH (HPF.out.below hb)
          have HCF5 := hidH (HCF.out.below hb)
          have HR5 := hidH (HR2.out.below hb)
          have hrs : Row w5 w2.heap.size w5.heap.size v5 (joinV cs k) := hr
          obtain ⟨va, vc, rfl⟩ := hrs.some
          clear hb hr hrs HSU HPF HCF HR2 HB2
          go_wp2_with fail
          refine (sRun_any _ (joinV cs k) d w5 _ _ HV5.out.lies).mono ?_; rintro e w6 ⟨r, rfl, hr, hb⟩
          rw [HRB.out]
          have HB6 := hidH (bThen HB5.out hb)
          have HPF6 := hidH (HPF5.out.below hb)
          have HCF6 := hidH (HCF5.out.below hb)
          have HR6 := hidH (HR5.out.below hb)
          rw [HRJ.out] at hr
          obtain ⟨ra, rc, rfl⟩ := hr.some
          have HRR := hidH hr
          generalize hvl : (joinV cs k).length = vl at *
          generalize interA (joinV cs k) = ps at *
          generalize hrl : ps.length = rl at *
          have HRL := hidH hrl
          clear hb hr HPF5 HCF5 HB5 HR5 hvl hrl
          obtain ⟨q1, hq1⟩ : ∃ q1, q1 = k + 1 := ⟨_, rfl⟩
          have hq1n : q1 < cs.length := by omega
          have hk0 : k < cs.length := by omega
          have hx0 : cs[k]? = some ((cs[k]'hk0).1, (cs[k]'hk0).2) := List.getElem?_eq_getElem hk0
          have hx1 : cs[q1]? = some ((cs[q1]'hq1n).1, (cs[q1]'hq1n).2) := List.getElem?_eq_getElem hq1n
          have hsum : (vl : Int) = (cs[k]'hk0).1 + (cs[q1]'hq1n).1 := by
            have h := SO3.out
            subst hq1
            exact h
          generalize (cs[k]'hk0).1 = n0 at *
          generalize (cs[q1]'hq1n).1 = n1 at *
          generalize (cs[k]'hk0).2 = z0 at *
          generalize (cs[q1]'hq1n).2 = z1 at *
          obtain ⟨b2, off2, cap3, e, _, _, _, hcl⟩ := HR6.out.addr (by omega)
          injection e with e1 e2 e3
          subst e3
          clear e2
          injection e1 with e1
          injection e1 with eb eo
          subst eb eo
          obtain ⟨_, f0, _, _⟩ := hcl k _ _ hx0
          obtain ⟨_, f1, _, _⟩ := hcl q1 _ _ hx1
          have hqi1 : IntKind.i64.wrap ((k : Int) + 1) = (q1 : Int) := by rw [hq1]; exact IntWalk.i64_in _ (by omega)
          have hw : IntKind.i64.wrap (n0 + n1) = (vl : Int) := by rw [← hsum]; exact IntWalk.i64_in _ (by omega)
          have g0 : w6.drew.cell? ⟨b, off + k * 2, none⟩ = _ := f0
          have g1 : w6.drew.cell? ⟨b, off + q1 * 2, none⟩ = _ := f1
          have hB67 : Below w6.heap.size w6 (w6.alloc (.cells #[.int .i64 (vl : Int), .slice ra rl rc] 46)) := (Below.refl _ w6).alloc (Nat.le_refl _) _
          have HPF7 := hidH (HPF6.out.below hB67)
          have HCF7 := hidH ((HCF6.out.below hB67).top)
          have HPN : Hid (PartF (w6.alloc (.cells #[.int .i64 (vl : Int), .slice ra rl rc] 46)) ⟨w6.heap.size, 0, none⟩ 1 1 [.int .i64 (vl : Int), .slice ra rl rc]) := hidH ⟨rfl, Nat.le_refl _, by decide, (World.news_of_block (cs := #[.int .i64 (vl : Int), .slice ra rl rc]) (t := 46) (fr := (0, 0)) (heap_alloc_new w6 (.cells #[.int .i64 (vl : Int), .slice ra rl rc] 46))), by simp [Value.oneCell']⟩
          have HCN : Hid (CellsSg (w6.alloc (.cells #[.int .i64 (vl : Int), .slice ra rl rc] 46)) (w6.alloc (.cells #[.int .i64 (vl : Int), .slice ra rl rc] 46)).heap.size [.int .i64 (vl : Int), .slice ra rl rc] [((vl : Int), ps)]) := hidH ⟨rfl, fun j c' ys' hj => by
            have hj2 : j < 1 := (List.getElem?_eq_some_iff.1 hj).1
            obtain rfl : j = 0 := by omega
            injection hj with hj
            injection hj with e1 e2
            subst e1 e2
            exact ⟨rfl, _, rfl, (HRR.out.lies.below hB67).top⟩⟩
          have HB7 := hidH (HB6.out.trans (hB67.mono HB6.out.size))
          have HED := hidH (fun (W : World) (hb : Below (w6.alloc (.cells #[.int .i64 (vl : Int), .slice ra rl rc] 46)).heap.size (w6.alloc (.cells #[.int .i64 (vl : Int), .slice ra rl rc] 46)) W) => show Calls Try.prog 66 #[.slice (some ⟨b, off, none⟩) cs.length cap1, .int .i64 (k : Int), .int .i64 2, .slice (some ⟨w6.heap.size, 0, none⟩) 1 1] W (NewLs (cs.take k ++ [((vl : Int), ps)] ++ cs.drop (k + 2)) W) from sEdit_any b off cap1 us cs ⟨w6.heap.size, 0, none⟩ 1 1 _ [((vl : Int), ps)] k 2 W (HPF7.out.below hb) ((HCF7.out.below hb).mono hb.size) (HPN.out.below hb) ((HCN.out.below hb).mono hb.size) rfl (by omega) hn (by simp))
          generalize cs.take k ++ [((vl : Int), ps)] ++ cs.drop (k + 2) = gs at *
          have HSUM := hidH hsum
          clear hB67 hq1 hsum hx0 hx1 hcl hqi2 hqk hck
          go_upto_region 7 with fail
          clear f0 f1
          go_region_with (go_at_call 66; refine (HED.out _ (by first | exact (Below.refl _ _).drew | exact Below.refl _ _)).mono ?_; rintro e w8 ⟨v8, rfl, hr, hb⟩; (have HR8 := hidH hr); (have HB8 := hidH (bThen (show Below w.heap.size w _ from by first | exact HB7.out.drew | exact HB7.out) hb)); clear hr hb)
          all_goals
            obtain ⟨v8a, v8c, rfl, hv1, hv2⟩ := HR8.out.len
            clear hv1 hv2
            go_wp2_with fail
            go_ret2
            rw [HGG.out]
            exact ⟨.slice v8a gs.length v8c, rfl, HR8.out, HB8.out⟩
theorem joinA_len (cs : List (Int × List Int)) (i d : Int) : (joinA cs i d).length ≤ 61 ∧ ∀ c zs, (c, zs) ∈ joinA cs i d → zs.length ≤ 7 := by
  cases hb : joinB cs i d
  · rw [joinB_no hb]
    exact ⟨by simp, fun c zs h => by cases h⟩
  · have hb' := hb
    unfold joinB at hb'
    rw [Bool.and_eq_true, Bool.and_eq_true, Bool.and_eq_true, decide_eq_true_eq] at hb'
    obtain ⟨hp, hi, _, hr⟩ := hb'
    obtain ⟨k, rfl⟩ : ∃ k : Nat, i = (k : Int) := ⟨i.toNat, by omega⟩
    rw [Int.toNat_natCast] at hr
    rw [(joinB_at d hp (show k + 2 ≤ cs.length by omega)).2 hb]
    obtain ⟨_, h60, _⟩ := planOk_seg hp
    exact ⟨by simp; omega, fun c zs h => (join_polys hp hr c zs h).2⟩
theorem joinA_tot (cs : List (Int × List Int)) (i d : Int) : totS (joinA cs i d) ≤ 1048576 := by
  obtain ⟨h1, h2⟩ := joinA_len cs i d
  have h3 := lenS_le (joinA cs i d) 7 h2
  unfold totS
  omega
theorem sJoin_any (v : Value) (cs : List (Int × List Int)) (i d : Int) (w : World) (h1 : Nat) (hv : LiesSg w h1 v cs) (hn : cs.length ≤ 1048576) (hz : ∀ c zs, (c, zs) ∈ cs → zs.length ≤ 1048576) : Calls Try.prog 24 #[v, .int .i64 i, .int .i64 d] w (NewApB (joinA cs i d) (joinB cs i d) w) := by
  have HR := hidH (sRawJoin_any v cs i d w h1 hv hn hz)
  have HL := hidH (joinA_len cs i d)
  clear hv hz
  generalize joinA cs i d = gs at *
  generalize joinB cs i d = tb at *
  go_enter Try.func24, Try.ntmps24
  go_wp2_with fail
  refine HR.out.mono ?_; rintro e w2 ⟨u, rfl, hr, hb⟩
  have HB := hidH hb
  have HRR := hidH hr
  clear hb hr
  go_wp2_with fail
  refine (ownSgs_any u gs w2 _ HRR.out (by have := HL.out.1; omega) (fun c zs h => by have := HL.out.2 c zs h; omega)).mono ?_; rintro e w3 ⟨u3, rfl, hr, hb⟩
  have HB3 := hidH (bThen HB.out hb)
  have HR3 := hidH (hr.mono HB.out.size (Nat.le_refl _))
  clear hb hr
  go_wp2_with fail
  go_ret2
  exact ⟨_, rfl, HR3.out, HB3.out⟩
theorem join_any2 (v : Value) (cs : List (Int × List Int)) (i d : Int) (w : World) (h1 : Nat) (hv : LiesSg w h1 v cs) (hn : cs.length ≤ 1048576) (_ : ∀ c zs, (c, zs) ∈ cs → zs.length ≤ 1048576) : Calls Try.prog 25 #[v, .int .i64 i, .int .i64 d] w (NewApB (joinA cs i d) (joinB cs i d) w) := join_any v cs i d w h1 hv hn
set_option maxHeartbeats 1600000 in
theorem exJoinSegments (v : Value) (cs : List (Int × List Int)) (n1 : Int) (n2 : Int) (w : World) (hv : LiesSg w w.heap.size v cs) : Calls Try.prog 7 #[v, .int .i64 n1, .int .i64 n2] w (Gives (.bool true) w) := by
  have HV := hidH hv
  obtain ⟨a, cap, rfl, hlc, hcm⟩ := hv.len
  unfold maxLen at hcm
  clear hv
  go_enter Try.func7, Try.ntmps7
  go_wp2_with fail
  refine (szSgT_any _ cs 1048576 _ _ HV.out (Nat.le_refl _)).mono ?_; rintro e w1 ⟨r, rfl, hr, hb⟩
  have B1 := hidH hb
  have s1 := hb.size
  clear hb
  rcases hr with rfl | ⟨⟨m, rfl, hm⟩, hT⟩
  · go_wp2_with fail
    go_ret
    exact ⟨rfl, B1.out⟩
  have hl1 : cs.length ≤ 1048576 := by unfold totS at hT; omega
  have HL2 := hidH (fun c zs (hm : (c, zs) ∈ cs) => show zs.length ≤ 1048576 from by have := lenS_mem hm; unfold totS at hT; omega)
  go_wp2_with fail
  refine (toSgs_any _ cs _ ((HV.out.below B1.out).mono B1.out.size) hl1 HL2.out).mono ?_; rintro e w2 ⟨t, rfl, hr, hb⟩
  have B2 := hidH (bThen B1.out hb)
  have s2 := hb.size
  have T_2 := hidH hr
  clear hb B1  hr
  go_wp2_with fail
  refine (sJoin_any _ cs n1 n2 _ _ T_2.out.lies hl1 HL2.out).mono ?_; rintro e w3 ⟨u, rfl, hr, hb⟩
  have B3 := hidH (bThen B2.out hb)
  have s3 := hb.size
  have T_3 := hidH (T_2.out.below hb)
  have W_3 := hidH hr
  clear hb B2 T_2 hr
  clear T_3
  go_wp2_with fail
  refine (toSgs_any _ cs _ ((HV.out.below B3.out).mono B3.out.size) hl1 HL2.out).mono ?_; rintro e w4 ⟨x, rfl, hr, hb⟩
  have B4 := hidH (bThen B3.out hb)
  have s4 := hb.size
  have W_4 := hidH (W_3.out.below hb)
  have X_4 := hidH hr
  clear hb B3 W_3 hr
  go_wp2_with fail
  refine (join_any2 _ cs n1 n2 _ _ X_4.out.lies hl1 HL2.out).mono ?_; rintro e w5 ⟨g, rfl, hr, hb⟩
  have B5 := hidH (bThen B4.out hb)
  have s5 := hb.size
  have W_5 := hidH (W_4.out.below hb)
  have X_5 := hidH (X_4.out.below hb)
  have G_5 := hidH hr
  clear hb B4 W_4 X_4 hr
  have hlen := joinA_tot cs n1 n2
  have hlen1 := show (joinA cs n1 n2).length ≤ 1048576 from by have := hlen; unfold totS at this; omega
  generalize hrs : (joinA cs n1 n2) = rs at *
  have HRS := hidH hrs
  clear hrs
  generalize hrb : (joinB cs n1 n2) = rb at *
  have HRB := hidH hrb
  clear hrb
  go_wp2_with fail
  refine (eqSg_yes g u rs _ _ _ G_5.out.lies W_5.out.lies hlen1).mono ?_; rintro e w6 ⟨rfl, hb⟩
  have B6 := hidH (bThen B5.out hb)
  have s6 := hb.size
  have W_6 := hidH (W_5.out.below hb)
  have X_6 := hidH (X_5.out.below hb)
  have G_6 := hidH (G_5.out.below hb)
  clear hb B5 W_5 X_5 G_5
  go_wp2_with fail
  refine (toSgs_any _ cs _ ((HV.out.below B6.out).mono B6.out.size) hl1 HL2.out).mono ?_; rintro e w7 ⟨y, rfl, hr, hb⟩
  have B7 := hidH (bThen B6.out hb)
  have s7 := hb.size
  have W_7 := hidH (W_6.out.below hb)
  have X_7 := hidH (X_6.out.below hb)
  have G_7 := hidH (G_6.out.below hb)
  have Y_7 := hidH hr
  clear hb B6 W_6 X_6 G_6 hr
  go_wp2_with fail
  refine (eqSg_yes x y cs _ _ _ X_7.out.lies Y_7.out.lies hl1).mono ?_; rintro e w8 ⟨rfl, hb⟩
  have B8 := hidH (bThen B7.out hb)
  have s8 := hb.size
  have W_8 := hidH (W_7.out.below hb)
  have X_8 := hidH (X_7.out.below hb)
  have G_8 := hidH (G_7.out.below hb)
  have Y_8 := hidH (Y_7.out.below hb)
  clear hb B7 W_7 X_7 G_7 Y_7
  clear Y_8
  go_wp2_with fail
  refine (markAp_any x cs 1 _ _ _ X_8.out.ap (by omega) (by omega) hT).mono ?_; rintro e w9 ⟨rfl, hr, ha⟩
  have s9 := ha.size
  have B9 := hidH (B8.out.trans (ha.below (by have := B8.out.size; omega) B8.out.size))
  have W_9 := hidH (W_8.out.apart ha (by omega))
  have G_9 := hidH (G_8.out.apart ha (by omega))
  have X_9 := hidH hr
  clear ha B8 W_8 X_8 G_8 hr
  clear X_9
  go_wp2_with fail
  refine (eqSg_yes g u rs _ _ _ G_9.out.lies W_9.out.lies hlen1).mono ?_; rintro e w10 ⟨rfl, hb⟩
  have B10 := hidH (bThen B9.out hb)
  have s10 := hb.size
  have W_10 := hidH (W_9.out.below hb)
  have G_10 := hidH (G_9.out.below hb)
  clear hb B9 W_9 G_9
  go_wp2_with fail
  refine (markAp_any g rs 1 _ _ _ G_10.out (by omega) (by omega) hlen).mono ?_; rintro e w11 ⟨rfl, hr, ha⟩
  have s11 := ha.size
  have B11 := hidH (B10.out.trans (ha.below (by have := B10.out.size; omega) B10.out.size))
  have W_11 := hidH (W_10.out.apart ha (by omega))
  have G_11 := hidH hr
  clear ha B10 W_10 G_10 hr
  go_wp2_with fail
  refine (heldSg_any g rs 1 _ _ G_11.out.lies (by omega) (by omega) hlen).mono ?_; rintro e w12 ⟨rfl, hb⟩
  have B12 := hidH (bThen B11.out hb)
  have s12 := hb.size
  have W_12 := hidH (W_11.out.below hb)
  have G_12 := hidH (G_11.out.below hb)
  clear hb B11 W_11 G_11
  go_wp2_with fail
  refine (toSgs_any _ cs _ ((HV.out.below B12.out).mono B12.out.size) hl1 HL2.out).mono ?_; rintro e w13 ⟨t2, rfl, hr, hb⟩
  have B13 := hidH (bThen B12.out hb)
  have s13 := hb.size
  have W_13 := hidH (W_12.out.below hb)
  have G_13 := hidH (G_12.out.below hb)
  have T_13 := hidH hr
  clear hb B12 W_12 G_12 hr
  go_wp2_with fail
  refine (join_any2 _ cs n1 n2 _ _ T_13.out.lies hl1 HL2.out).mono ?_; rintro e w14 ⟨h, rfl, hr, hb⟩
  rw [HRS.out] at hr
  rw [HRB.out]
  have B14 := hidH (bThen B13.out hb)
  have s14 := hb.size
  have W_14 := hidH (W_13.out.below hb)
  have G_14 := hidH (G_13.out.below hb)
  have T_14 := hidH (T_13.out.below hb)
  have H_14 := hidH hr
  clear hb B13 W_13 G_13 T_13 hr
  go_wp2_with fail
  refine (eqSg_yes h u rs _ _ _ H_14.out.lies W_14.out.lies hlen1).mono ?_; rintro e w15 ⟨rfl, hb⟩
  have B15 := hidH (bThen B14.out hb)
  have s15 := hb.size
  have W_15 := hidH (W_14.out.below hb)
  have G_15 := hidH (G_14.out.below hb)
  have T_15 := hidH (T_14.out.below hb)
  have H_15 := hidH (H_14.out.below hb)
  clear hb B14 W_14 G_14 T_14 H_14
  go_wp2_with fail
  refine (heldSg_any g rs 1 _ _ G_15.out.lies (by omega) (by omega) hlen).mono ?_; rintro e w16 ⟨rfl, hb⟩
  have B16 := hidH (bThen B15.out hb)
  have s16 := hb.size
  have W_16 := hidH (W_15.out.below hb)
  have G_16 := hidH (G_15.out.below hb)
  have T_16 := hidH (T_15.out.below hb)
  have H_16 := hidH (H_15.out.below hb)
  clear hb B15 W_15 G_15 T_15 H_15
  go_wp2_with fail
  go_ret
  exact ⟨rfl, B16.out⟩
end Go.Proofs.Ytpkieconbfgbdaa
