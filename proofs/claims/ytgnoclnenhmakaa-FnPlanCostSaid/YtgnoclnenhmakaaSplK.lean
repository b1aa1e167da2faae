/-
  The walk of the law FnPlanCost. No conditions but that the bytes that came in can be read.
-/
import Derived.Test.YtgnoclnenhmakaaSplI
import Derived.Test.YtgnoclnenhmakaaPlnD
import Derived.Test.YtgnoclnenhmakaaSplF
namespace Go.Proofs.Ytgnoclnenhmakaa
set_option maxRecDepth 4000
open Go.RowKit
/-- Two drawn costs. -/
def TwoC (r B : Nat) (w : World) (e : Ending) (w' : World) : Prop := ∃ s c : Int, e = .returned (.tuple #[.int .i64 s, .int .i64 c]) ∧ Rd w' r (B + 10) ∧ Onto r w w'
theorem costs5_any (r B : Nat) (w : World) (h : Rd w r B) (hB : B ≤ 800000) : Calls Try.prog 31 #[.pointer (some ⟨r, 0, none⟩)] w (TwoC r B w) := by
  have HR := hidH h
  clear h
  go_enter Try.func31, Try.ntmps31
  go_wp2_with fail
  refine (pick_any 16 r _ w HR.out (by omega)).mono ?_
  rintro e w1 ⟨x, rfl, y0, y1, hR, hO⟩
  have R1 := hidH hR
  have O1 := hidH hO
  clear y0 y1 hR hO HR
  by_cases x0 : x = 0
  · subst x0
    go_wp2_with fail
    have hN := num_any w1.heap.size 0 [-1, 1000, 1001] r _ (w1.alloc (.cells (intC [-1, 1000, 1001]) 3)) (R1.out.onto ((Below.refl _ _).alloc (Nat.le_refl _) _)) (by omega) (by first | decide | exact Nat.succ_pos _) (by first | decide | exact (show 3 ≤ 1000 from by decide)) (ints_new _ _ _ _ R1.out.lt)
    refine hN.mono ?_
    rintro e w2 ⟨s, hz, rfl, hR, hO⟩
    have R2 := hidH hR
    have O2 := hidH (O1.out.trans (((Onto.refl _ _).alloc (.cells (intC [-1, 1000, 1001]) 3)).trans hO))
    clear hN hz hR hO R1 O1
    go_wp2_with fail
    have hN := num_any w2.heap.size 0 [0, 1000, 1001] r _ (w2.alloc (.cells (intC [0, 1000, 1001]) 3)) (R2.out.onto ((Below.refl _ _).alloc (Nat.le_refl _) _)) (by omega) (by first | decide | exact Nat.succ_pos _) (by first | decide | exact (show 3 ≤ 1000 from by decide)) (ints_new _ _ _ _ R2.out.lt)
    refine hN.mono ?_
    rintro e w3 ⟨c, hz, rfl, hR, hO⟩
    have R3 := hidH hR
    have O3 := hidH (O2.out.trans (((Onto.refl _ _).alloc (.cells (intC [0, 1000, 1001]) 3)).trans hO))
    clear hN hz hR hO R2 O2
    go_wp2_with fail
    go_ret2
    exact ⟨s, c, rfl, R3.out.more (by omega), O3.out⟩
  · have b0 : (x == 0) = false := beq_eq_false_iff_ne.2 x0
    clear x0
    go_wp2_with fail
    have hN := num_any w1.heap.size 0 [5, 1, 0, 20, 3] r _ (w1.alloc (.cells (intC [5, 1, 0, 20, 3]) 3)) (R1.out.onto ((Below.refl _ _).alloc (Nat.le_refl _) _)) (by omega) (by first | decide | exact Nat.succ_pos _) (by first | decide | exact (show 5 ≤ 1000 from by decide)) (ints_new _ _ _ _ R1.out.lt)
    refine hN.mono ?_
    rintro e w2 ⟨s, hz, rfl, hR, hO⟩
    have R2 := hidH hR
    have O2 := hidH (O1.out.trans (((Onto.refl _ _).alloc (.cells (intC [5, 1, 0, 20, 3]) 3)).trans hO))
    clear hN hz hR hO R1 O1
    go_wp2_with fail
    have hN := num_any w2.heap.size 0 [1, 0, 2, 7] r _ (w2.alloc (.cells (intC [1, 0, 2, 7]) 3)) (R2.out.onto ((Below.refl _ _).alloc (Nat.le_refl _) _)) (by omega) (by first | decide | exact Nat.succ_pos _) (by first | decide | exact (show 4 ≤ 1000 from by decide)) (ints_new _ _ _ _ R2.out.lt)
    refine hN.mono ?_
    rintro e w3 ⟨c, hz, rfl, hR, hO⟩
    have R3 := hidH hR
    have O3 := hidH (O2.out.trans (((Onto.refl _ _).alloc (.cells (intC [1, 0, 2, 7]) 3)).trans hO))
    clear hN hz hR hO R2 O2
    go_wp2_with fail
    go_ret2
    exact ⟨s, c, rfl, R3.out.more (by omega), O3.out⟩
/-- A drawn plan and two costs. -/
def DrawPc (w : World) (e : Ending) (w' : World) : Prop := ∃ (v : Value) (cs : List (Int × List Int)) (s c : Int), e = .returned (.tuple #[v, .int .i64 s, .int .i64 c]) ∧ LiesSg w' w'.heap.size v cs ∧ cs.length ≤ 61 ∧ (∀ c zs, (c, zs) ∈ cs → zs.length ≤ 7) ∧ Below w.heap.size w w'
theorem drawPlanCost (a : Option Addr) (len cap : Nat) (w : World) (hc : Came w a len cap) (hl : len ≤ 1048576) : Calls Try.prog 8 #[.slice a len cap] w (DrawPc w) := by
  have HO := hidH (opened_any a len cap w hc hl)
  clear hc
  go_enter Try.func8, Try.ntmps8
  go_wp2_with fail
  refine HO.out.mono ?_
  rintro e w1 ⟨rfl, hR, hB⟩
  have R1 := hidH hR
  have B1 := hidH hB
  have s1 := hB.size
  have hr1 := hR.lt
  clear hR hB HO
  go_wp2_with fail
  refine (plan5_any w.heap.size 0 w1 R1.out (by omega)).mono ?_
  rintro e w2 ⟨v, cs, rfl, hP, h1, h61, h7, hR, hO⟩
  have R2 := hidH hR
  have O2 := hidH hO
  have P2 := hidH hP
  have H7 := hidH h7
  obtain ⟨va, vc, rfl, _, hvm⟩ := hP.form
  clear hP hR hO h7 hvm R1
  go_wp2_with fail
  refine (bad5_any w.heap.size _ w1.heap.size w.heap.size _ cs w2 P2.out R2.out (by omega) (by omega) (Nat.le_refl _) h1 h61 H7.out).mono ?_
  rintro e w3 ⟨v, ds, rfl, hL, k61, k7, hR, hB⟩
  have L3 := hidH hL
  have R3 := hidH hR
  have B3 := hidH ((B1.out.trans (O2.out.below (Nat.le_refl _) s1)).trans hB)
  have K7 := hidH k7
  have hs3 := B3.out.size
  obtain ⟨va3, vc3, rfl, _, hvm⟩ := (hL w3 (Onto.refl _ _)).len
  clear hL hR hB k7 hvm R2
  go_wp2_with fail
  refine (costs5_any w.heap.size _ w3 R3.out (by omega)).mono ?_
  rintro e w4 ⟨s, c, rfl, hR, hO⟩
  have L4 := hidH (L3.out w4 hO)
  have B4 := hidH (B3.out.trans (hO.below (Nat.le_refl _) hs3))
  clear hR hO L3
  go_wp2_with fail
  ((try simp only [Exit.inBlock, Exit.then]); refine bodyPost_ret (results_tmp3 rfl _ _ _) rfl ?_)
  exact ⟨_, ds, s, c, rfl, L4.out, k61, K7.out, B4.out⟩
/-- The differences of all segments. -/
def difS (cs : List (Int × List Int)) : Nat → Int
  | 0 => 0
  | k + 1 => difS cs k + ((cs.getD k (0, [])).2.length : Int)
theorem difS_next (cs : List (Int × List Int)) (k : Nat) (x : Int × List Int) (h : cs[k]? = some x) : difS cs (k + 1) = difS cs k + (x.2.length : Int) := by
  rw [difS, List.getD_eq_getElem?_getD, h]; rfl
theorem costM_is (cs : List (Int × List Int)) (s c : Int) (k : Nat) (hk : k ≤ cs.length) : costM cs s c k = s * (k : Int) + c * difS cs k := by
  induction k with
  | zero => simp [costM, difS]
  | succ k ih =>
    have hx : cs[k]? = some cs[k] := List.getElem?_eq_getElem (by omega)
    rw [costM_next cs s c k _ hx, difS_next cs k _ hx, ih (by omega), Int.mul_add, Int.natCast_succ, Int.mul_add, Int.mul_one]
    generalize s * (k : Int) = A
    generalize c * difS cs k = B
    generalize c * ((cs[k]).2.length : Int) = D
    omega
theorem difS_bd {cs : List (Int × List Int)} (h : planOk cs = true) (k : Nat) (hk : k ≤ cs.length) : 0 ≤ difS cs k ∧ difS cs k ≤ 7 * (k : Int) := by
  obtain ⟨_, _, hall⟩ := planOk_seg h
  induction k with
  | zero => simp [difS]
  | succ k ih =>
    have hx : cs[k]? = some cs[k] := List.getElem?_eq_getElem (by omega)
    rw [difS_next cs k _ hx]
    have := ih (by omega)
    have hm := hall cs[k].1 cs[k].2 (List.getElem_mem (show k < cs.length by omega))
    show 0 ≤ difS cs k + ((cs[k].2.length : Nat) : Int) ∧ difS cs k + ((cs[k].2.length : Nat) : Int) ≤ 7 * (((k + 1 : Nat)) : Int)
    omega
theorem sub_one {cs : List (Int × List Int)} {k : Nat} (h : planOk cs = true) (hk : k < cs.length) (s c : Int) (hs : costOk s = true) (hc : costOk c = true) : pcostA ((cs.drop k).take 1) s c = s + c * ((cs[k]).2.length : Int) := by
  have e : (cs.drop k).take 1 = [cs[k]] := by rw [List.drop_eq_getElem_cons hk]; rfl
  obtain ⟨_, _, hall, _, _⟩ := planOk_parts h
  have hseg := List.all_eq_true.1 hall _ (List.getElem_mem hk)
  obtain ⟨_, q1, q2, _⟩ := segOk_parts hseg
  have hp : planOk [cs[k]] = true := by
    unfold planOk
    rw [decide_eq_true (show 1 ≤ [cs[k]].length by simp), Bool.true_and]
    rw [decide_eq_true (show (planL [cs[k]]).length ≤ 60 by rw [planL_tot]; simp [totN]; omega), Bool.and_true]
    simp [hseg]
  rw [e]
  unfold pcostA pcostB
  rw [hp, hs, hc, if_pos (by rfl)]
  show costM [cs[k]] s c 1 = _
  rw [costM_is _ s c 1 (by simp)]
  simp [difS]
/-- What the costs of a plan are. -/
theorem cost_law {cs : List (Int × List Int)} {s c : Int} (h : pcostB cs s c = true) : ∃ X Y T : Int, pcostA cs s c = X + Y ∧ X = s * (cs.length : Int) ∧ Y = c * T ∧ pcostA cs 1 0 = (cs.length : Int) ∧ pcostA cs 0 1 = T ∧ 0 ≤ X ∧ X ≤ 60000 ∧ 0 ≤ Y ∧ Y ≤ 420000 ∧ 0 ≤ T ∧ T ≤ 420 := by
  unfold pcostB at h
  rw [Bool.and_eq_true, Bool.and_eq_true] at h
  obtain ⟨hp, hs, hc⟩ := h
  have h0 : costOk 0 = true := by decide
  have h1 : costOk 1 = true := by decide
  obtain ⟨_, h60, _⟩ := planOk_seg hp
  have hb := difS_bd hp cs.length (Nat.le_refl _)
  have hs' := of_decide_eq_true hs
  have hc' := of_decide_eq_true hc
  refine ⟨s * (cs.length : Int), c * difS cs cs.length, difS cs cs.length, ?_, rfl, rfl, ?_, ?_, ?_, ?_, ?_, ?_, hb.1, by omega⟩
  · unfold pcostA pcostB
    rw [hp, hs, hc, if_pos (by rfl), costM_is _ _ _ _ (Nat.le_refl _)]
  · unfold pcostA pcostB
    rw [hp, h0, h1, if_pos (by rfl), costM_is _ _ _ _ (Nat.le_refl _)]
    omega
  · unfold pcostA pcostB
    rw [hp, h0, h1, if_pos (by rfl), costM_is _ _ _ _ (Nat.le_refl _)]
    omega
  · exact Int.mul_nonneg (by omega) (by omega)
  · have := Int.mul_le_mul hs'.2 (show (cs.length : Int) ≤ 60 by omega) (by omega) (by omega); omega
  · exact Int.mul_nonneg (by omega) hb.1
  · have := Int.mul_le_mul hc'.2 (show difS cs cs.length ≤ 420 by omega) hb.1 (by omega); omega
theorem costM_bd {cs : List (Int × List Int)} {s c : Int} (h : pcostB cs s c = true) (k : Nat) (hk : k ≤ cs.length) : 0 ≤ costM cs s c k ∧ costM cs s c k ≤ 480000 := by
  unfold pcostB at h
  rw [Bool.and_eq_true, Bool.and_eq_true] at h
  obtain ⟨hp, hs, hc⟩ := h
  obtain ⟨_, h60, _⟩ := planOk_seg hp
  have hb := difS_bd hp k hk
  have hs' := of_decide_eq_true hs
  have hc' := of_decide_eq_true hc
  rw [costM_is _ _ _ _ hk]
  have a1 := Int.mul_nonneg hs'.1 (show (0 : Int) ≤ (k : Int) by omega)
  have a2 := Int.mul_le_mul hs'.2 (show (k : Int) ≤ 60 by omega) (by omega) (by omega)
  have b1 := Int.mul_nonneg hc'.1 hb.1
  have b2 := Int.mul_le_mul hc'.2 (show difS cs k ≤ 420 by omega) hb.1 (by omega)
  omega
set_option maxHeartbeats 6400000 in
theorem lawPlanCost (a : Option Addr) (len cap : Nat) (w : World) (hc : Came w a len cap) : Calls Try.prog 3 #[.slice a len cap] w (Gives (.bool true) w) := by
  have HC := hidH hc
  have hc1 := hc.lenLe
  have hc2 := hc.capLe
  unfold maxLen at hc2
  by_cases hbig : 1048576 < len
  · go_enter Try.func3, Try.ntmps3
    go_wp2
    go_ret
    exact ⟨rfl, Below.refl _ _⟩
  have hsm : len ≤ 1048576 := by omega
  clear hbig hc
  go_enter Try.func3, Try.ntmps3
  have B0 := hidH (Below.refl w.heap.size w)
  go_wp2_with fail
  refine (drawPlanCost a len cap _ HC.out hsm).mono ?_; rintro e w1 ⟨v, cs, s, c, rfl, hz, hl61, hp7, hb⟩
  have B1 := hidH (bThen B0.out hb)
  have s1 := hb.size
  have LZ_1 := hidH hz
  clear hb B0  hz
  clear hp7
  obtain ⟨za, zcap, rfl, zc1, zc2⟩ := LZ_1.out.len
  have HZM := hidH zc2
  unfold maxLen at zc2
  cases hok : pcostB cs s c
  · have HT := hidH (show pcostA cs s c = -1 by unfold pcostA; rw [hok]; rfl)
    clear hok
    go_wp2_with fail
    refine (planCost_any _ cs _ _ LZ_1.out (by omega) s c).mono ?_; rintro e w2 ⟨rfl, hb⟩
    rw [HT.out]
    have B2 := hidH (bThen B1.out hb)
    have s2 := hb.size
    have LZ_2 := hidH (LZ_1.out.below hb)
    clear hb B1 LZ_1
    go_wp2_with fail
    refine (sPlanCost_any _ cs _ _ LZ_2.out (by omega) s c).mono ?_; rintro e w3 ⟨rfl, hb⟩
    rw [HT.out]
    have B3 := hidH (bThen B2.out hb)
    have s3 := hb.size
    have LZ_3 := hidH (LZ_2.out.below hb)
    clear hb B2 LZ_2
    go_wp2_with fail
    refine (sPlanCost_any _ cs _ _ LZ_3.out (by omega) s c).mono ?_; rintro e w4 ⟨rfl, hb⟩
    rw [HT.out]
    have B4 := hidH (bThen B3.out hb)
    have s4 := hb.size
    have LZ_4 := hidH (LZ_3.out.below hb)
    clear hb B3 LZ_3
    go_wp2_with fail
    go_ret
    exact ⟨rfl, B4.out⟩
  · obtain ⟨X, Y, T, e1, e2, e3, e4, e5, x1, x2, y1, y2, t1, t2⟩ := cost_law hok
    have HT := hidH e1
    have HX := hidH e2
    have HY := hidH e3
    have HP1 := hidH e4
    have HP0 := hidH e5
    have HCB := hidH (fun k hk => costM_bd hok k hk)
    have hok' := hok
    unfold pcostB at hok'
    rw [Bool.and_eq_true, Bool.and_eq_true] at hok'
    obtain ⟨hp, hcs, hcc⟩ := hok'
    obtain ⟨hq1, hq60, _⟩ := planOk_seg hp
    have HSO := hidH (fun k hk => sub_one (k := k) hp hk s c hcs hcc)
    have HEND := hidH (show costM cs s c cs.length = X + Y from by rw [← e1]; unfold pcostA; rw [hok, if_pos rfl])
    clear hok e1 e2 e3 e4 e5 hp hcs hcc
    go_wp2_with fail
    refine (planCost_any _ cs _ _ LZ_1.out (by omega) s c).mono ?_; rintro e w2 ⟨rfl, hb⟩
    rw [HT.out]
    have B2 := hidH (bThen B1.out hb)
    have s2 := hb.size
    have LZ_2 := hidH (LZ_1.out.below hb)
    clear hb B1 LZ_1
    have hxy : ¬ X + Y < 0 := by omega
    go_wp2_with fail
    refine (sPlanCost_any _ cs _ _ LZ_2.out (by omega) s c).mono ?_; rintro e w3 ⟨rfl, hb⟩
    rw [HT.out]
    have B3 := hidH (bThen B2.out hb)
    have s3 := hb.size
    have LZ_3 := hidH (LZ_2.out.below hb)
    clear hb B2 LZ_2
    go_wp2_with fail
    go_loopw [7, 8] (fun x z wr => ∃ i : Nat, i ≤ cs.length ∧ z = .int .i64 i ∧ x = .int .i64 (costM cs s c i) ∧ Below w.heap.size w wr ∧ Below w3.heap.size w3 wr) (fun _ z _ => cs.length - (intOf z).toNat)
    case atStart => exact ⟨0, Nat.zero_le _, rfl, rfl, B3.out, Below.refl _ _⟩
    case round =>
      obtain ⟨i, hi, rfl, hxx, hb, hb2⟩ := hrel
      have HB := hidH hb
      have HB2 := hidH hb2
      have HZr := hidH (LZ_3.out.below hb2)
      clear hb hb2
      by_cases hlt : i < cs.length
      · subst hxx
        obtain ⟨b, off, cc1, e, _, _, _, _⟩ := HZr.out.addr (by omega)
        injection e with e1 e2 e3
        subst e1; subst e3
        clear e2
        obtain ⟨q, hiq, hqi, hiq2⟩ : ∃ q : Nat, (i : Int) + 1 = (q : Int) ∧ q - i = 1 ∧ i ≤ q ∧ q ≤ zcap := ⟨i + 1, by omega, by omega, by omega, by omega⟩
        obtain ⟨hiq2, hqc⟩ := hiq2
        have hck : ¬ zcap = i := by omega
        have hcut := HZr.out.cut i 1 (zcap - i) (by omega) (by omega) (Nat.le_trans (Nat.sub_le _ _) HZM.out)
        have hpc := planCost_any _ _ _ _ hcut (by rw [List.length_take]; omega) s c
        rw [HSO.out i hlt] at hpc
        have HPC := hidH hpc
        have HNX := hidH (costM_next cs s c i _ (List.getElem?_eq_getElem hlt))
        obtain ⟨b1, b2⟩ := HCB.out i (by omega)
        obtain ⟨b3, b4⟩ := HCB.out (i + 1) (by omega)
        rw [HNX.out] at b3 b4
        generalize s + c * ((cs[i]).2.length : Int) = p1 at *
        generalize costM cs s c i = ci at *
        clear hcut hpc
        go_wp2_with fail
        refine HPC.out.mono ?_; rintro e wa ⟨rfl, hb⟩
        have HBa := hidH hb
        clear hb
        go_wp2_with fail
        go_roundw
        case rel => exact ⟨i + 1, by omega, by go_num, by rw [HNX.out], HB.out.trans (HBa.out.mono HB.out.size), HB2.out.trans (HBa.out.mono HB2.out.size)⟩
        case measure => simp [intOf]; omega
      · obtain rfl : i = cs.length := by omega
        rw [HEND.out] at hxx
        subst hxx
        have HQ1 := hidH (fun W (hb : Below _ _ W) => planCost_any _ cs W _ (HZr.out.below hb) (by omega) 1 0)
        have HQ0 := hidH (fun W (hb : Below _ _ W) => planCost_any _ cs W _ (HZr.out.below hb) (by omega) 0 1)
        rw [HP1.out] at HQ1
        rw [HP0.out] at HQ0
        go_wp2_with fail
        refine (HQ1.out _ (Below.refl _ _)).mono ?_; rintro e wa ⟨rfl, hb⟩
        have HBa := hidH hb
        clear hb
        have hX : wrap64 (s * (cs.length : Int)) = X := by rw [← HX.out]; exact IntWalk.wrap64_in _ (by omega)
        go_wp2_with fail
        refine (HQ0.out _ HBa.out).mono ?_; rintro e wb ⟨rfl, hb⟩
        have HBb := hidH (HBa.out.trans (hb.mono HBa.out.size))
        clear hb
        have hY : wrap64 (c * T) = Y := by rw [← HY.out]; exact IntWalk.wrap64_in _ (by omega)
        have hY2 := HY.out
        go_wp2_with fail
        go_ret
        exact ⟨rfl, HB.out.trans (HBb.out.mono HB.out.size)⟩
end Go.Proofs.Ytgnoclnenhmakaa
