/-
  The entries of a page: the program, at every argument. No conditions but that slices fit in memory.
-/
import Derived.Test.YtnndeiiolnefkaaPlcA
import Derived.Test.YtnndeiiolnefkaaPsmM
import Derived.Test.YtnndeiiolnefkaaSlc
namespace Go.Proofs.Ytnndeiiolnefkaa
set_option maxRecDepth 4000
open Go.RowKit
/-- A call that answers a slice of numbers in old or new memory, and a truth. -/
def ReadsB (zs : List Int) (b : Bool) (w : World) (e : Ending) (w' : World) : Prop := ∃ v, e = .returned (.tuple #[v, .bool b]) ∧ Lies w' 0 w'.heap.size v zs ∧ Below w.heap.size w w'
theorem entriesOn_no (R A W : Int) (v : Value) (vs : List Int) (page : Int) (w : World) (lo hi : Nat) (hv : Lies w lo hi v vs) (h : pgOk R A W vs page = false) : Calls Try.prog 54 #[layV R A W, v, .int .i64 page] w (ReadsB [] false w) := by
  have HV := hidH hv
  obtain ⟨a, cap, rfl, hlc, hcm, hnil, hcell⟩ := hv
  unfold maxLen at hcm
  have HPN := hidH (fun W' => pagesNeeded_any R A W vs.length W')
  have B0 := hidH (bMore (Below.refl w.heap.size w) (layC R A W))
  have L0 := hidH (LayAt.fresh w R A W)
  clear hnil hcell
  unfold pgOk at h
  cases ht : tableOk vs
  · have HT := hidH ht
    clear ht h
    unfold layV layC at *
    go_enter Try.func54, Try.ntmps54
    go_wp2_with fail
    refine (tableValid_any _ vs _ _ _ (HV.out.below B0.out)).mono ?_; rintro e w1 ⟨rfl, hb⟩
    rw [HT.out]
    have B1 := hidH (bThen B0.out hb)
    clear hb
    go_wp2_with fail
    go_ret2
    exact ⟨_, rfl, (Row.nil _ _ _ _ _ (Nat.zero_le _) (fun _ => rfl)).lies, B1.out⟩
  · have HT := hidH ht
    rw [ht, Bool.true_and] at h
    have HBT := hidH (fun W' => between_any page 0 (pagesA R A W vs.length - 1) false h W')
    have hpb : -1 ≤ pagesA R A W vs.length ∧ pagesA R A W vs.length ≤ 180 := by
      unfold pagesA
      split
      · rename_i hh
        rw [Bool.and_eq_true] at hh
        have ⟨c1, c2⟩ := of_decide_eq_true hh.2
        have ⟨⟨r1, r2⟩, ⟨a1, a2⟩, _⟩ := (layOk_iff R A W).1 hh.1
        have ⟨p1, p2, p3⟩ := places_bd R A r1 r2 a1 a2
        have q1 : 0 ≤ ((vs.length : Int) + A * R - 1) / (A * R) := Int.ediv_nonneg (by omega) (by omega)
        have q2 : ((vs.length : Int) + A * R - 1) / (A * R) ≤ (vs.length : Int) + A * R - 1 := Int.ediv_le_self _ (by omega)
        omega
      · omega
    clear ht h
    generalize pagesA R A W vs.length = pn at *
    unfold layV layC at *
    go_enter Try.func54, Try.ntmps54
    go_wp2_with fail
    refine (tableValid_any _ vs _ _ _ (HV.out.below B0.out)).mono ?_; rintro e w1 ⟨rfl, hb⟩
    rw [HT.out]
    have B1 := hidH (bThen B0.out hb)
    have hL := (show LayAt _ w.heap.size R A W from L0.out).below hb
    have c0 := hL.cell0
    have c1 := hL.cell1
    have c2 := hL.cell2
    clear hb hL
    go_wp2_with fail
    refine (HPN.out _).mono ?_; rintro e w2 ⟨rfl, hb⟩
    have B2 := hidH (bThen B1.out hb)
    clear hb c0 c1 c2
    go_wp2_with fail
    refine (HBT.out _).mono ?_; rintro e w3 ⟨rfl, rfl⟩
    go_wp2_with fail
    go_ret2
    exact ⟨_, rfl, (Row.nil _ _ _ _ _ (Nat.zero_le _) (fun _ => rfl)).lies, B2.out⟩
theorem wrapNat (F : Nat) (h : F ≤ 1000000) : wrap64 (F : Int) = (F : Int) ∧ IntKind.i64.wrap (F : Int) = (F : Int) := ⟨IntWalk.wrap64_in _ (by omega), IntWalk.i64_in _ (by omega)⟩
set_option maxHeartbeats 1600000 in
theorem entriesOn_yes (rn an pn : Nat) (W : Int) (v : Value) (vs : List Int) (w : World) (lo hi : Nat) (hv : Lies w lo hi v vs) (hhi : hi ≤ w.heap.size) (h : pgOk rn an W vs pn = true) : Calls Try.prog 54 #[layV rn an W, v, .int .i64 pn] w (ReadsB (pgE rn an pn vs) true w) := by
  have HV := hidH hv
  obtain ⟨ht, hl, rn', an', pn', e1, e2, e3, hr1, hr2, ha1, ha2, hlt, hp59, hP1, hP2, hpa⟩ := pgOk_parts _ _ _ _ _ h
  obtain rfl : rn = rn' := by omega
  obtain rfl : an = an' := by omega
  obtain rfl : pn = pn' := by omega
  clear e1 e2 e3
  obtain ⟨b0, off0, cap, rfl, hlc, hcm, hlo0, hhi0, hbw0, hcell0⟩ := hv.addr (by omega)
  unfold maxLen at hcm
  have HPN := hidH (fun W' => pagesNeeded_any rn an W vs.length W')
  have B0 := hidH (bMore (Below.refl w.heap.size w) (layC rn an W))
  have L0 := hidH (LayAt.fresh w rn an W)
  have hh := h
  unfold pgOk at hh
  rw [Bool.and_eq_true] at hh
  have hpd := of_decide_eq_true hh.2
  have HBT := hidH (fun W' => between_any pn 0 (pagesA rn an W vs.length - 1) true hh.2 W')
  have HT := hidH ht
  have ⟨_, t60, _⟩ := (listOk_iff _ _ _).1 ht
  have ⟨⟨r1, r2⟩, ⟨a1, a2⟩, _⟩ := (layOk_iff (rn : Int) an W).1 hl
  have ⟨p1, p2, p3⟩ := places_bd (rn : Int) an r1 r2 a1 a2
  have HPL := hidH (fun W' => placesOf_page rn an W p1 p2 W')
  have HE : pgE rn an pn vs = (vs.drop (pn * (an * rn))).take (min (an * rn) (vs.length - pn * (an * rn))) := by
    unfold pgE
    by_cases hm : an * rn ≤ vs.length - pn * (an * rn)
    · rw [Nat.min_eq_left hm]
    · rw [Nat.min_eq_right (by omega), List.take_of_length_le (by rw [List.length_drop]; omega), List.take_of_length_le (by rw [List.length_drop]; exact Nat.le_refl _)]
  have HEH := hidH HE
  rw [show (an : Int) * (rn : Int) = ((an * rn : Nat) : Int) by simp] at HPL
  have hz : (pn : Int) * ((an * rn : Nat) : Int) = ((pn * (an * rn) : Nat) : Int) := by simp
  clear ht hh h hcell0 HE hl r1 r2 a1 a2 p1 p2 p3
  generalize pagesA rn an W vs.length = pg at *
  generalize an * rn = P at *
  obtain ⟨F, hF⟩ : ∃ F, F = pn * P := ⟨_, rfl⟩
  rw [← hF] at hz hlt HEH
  have hck : ¬ cap = F := by omega
  have hF60 : F ≤ 60 := by omega
  obtain ⟨M, hM, hMF, hFM⟩ : ∃ M : Nat, (F : Int) + (P : Int) = (M : Int) ∧ M - F = P ∧ F ≤ M := ⟨F + P, by omega, by omega, by omega⟩
  have hM1 : M ≤ 1000000 := by omega
  have HPM := hidH (show P = M - F by omega)
  clear hF hMF hP1
  obtain ⟨PZ, hPZ⟩ : ∃ z : Int, z = (P : Int) := ⟨_, rfl⟩
  obtain ⟨pz, hpz⟩ : ∃ z : Int, z = (pn : Int) := ⟨_, rfl⟩
  rw [← hPZ, ← hpz] at hz
  rw [← hPZ] at hM HPL
  rw [← hpz] at HBT ⊢
  have hmm := hidH (show P ≤ vs.length - F ∧ M ≤ vs.length ∧ M ≤ cap ∨ vs.length - F ≤ P ∧ vs.length < M by omega)
  have hpg : 1 ≤ pg := by omega
  clear hpz hPZ hpd hP2
  have HW1 := hidH (show wrap64 (pz * PZ) = (F : Int) from (congrArg wrap64 hz).trans (wrapNat F (Nat.le_trans hF60 (by decide))).1)
  have HW2 := hidH (show IntKind.i64.wrap (pz * PZ) = (F : Int) from (congrArg IntKind.i64.wrap hz).trans (wrapNat F (Nat.le_trans hF60 (by decide))).2)
  have HWM := hidH (show wrap64 ((F : Int) + PZ) = (M : Int) from (congrArg wrap64 hM).trans (wrapNat M hM1).1)
  clear hz hM hM1
  unfold layV layC at *
  go_enter Try.func54, Try.ntmps54
  go_wp2_with fail
  refine (tableValid_any _ vs _ _ _ (HV.out.below B0.out)).mono ?_; rintro e w1 ⟨rfl, hb⟩
  rw [HT.out]
  have B1 := hidH (bThen B0.out hb)
  have hL := (show LayAt _ w.heap.size rn an W from L0.out).below hb
  have c0 := hL.cell0
  have c1 := hL.cell1
  have c2 := hL.cell2
  have HL1 := hidH hL
  clear hb hL
  go_wp2_with fail
  refine (HPN.out _).mono ?_; rintro e w2 ⟨rfl, hb⟩
  have B2 := hidH (bThen B1.out hb)
  have hL := HL1.out.below hb
  clear hb c0 c1 c2
  have c0 := hL.cell0
  have c1 := hL.cell1
  have c2 := hL.cell2
  clear hL HL1
  go_wp2_with fail
  refine (HBT.out _).mono ?_; rintro e w3 ⟨rfl, rfl⟩
  go_wp2_with fail
  refine (HPL.out _).mono ?_; rintro e w3 ⟨rfl, hw3⟩
  have B3 := hidH (show Below w.heap.size w w3 by rw [hw3]; exact bMore B2.out (.cells #[.int .i64 rn, .int .i64 an, .int .i64 W] 38))
  clear B2 c0 c1 c2 hw3 B0 B1 L0
  rcases hmm.out with ⟨m1, m2, m3⟩ | ⟨m1, m2⟩
  · rw [Nat.min_eq_left m1] at HEH
    have hpm := HPM.out
    clear m1 hmm
    have hw1 := HW1.out
    have hwm := HWM.out
    go_wp2_with fail
    go_ret2
    exact ⟨_, rfl, by rw [HEH.out, HPM.out]; exact (((HV.out.below B3.out).mono (Nat.zero_le _) (Nat.le_trans hhi B3.out.size)).behind F (vs.length - F) (cap - F) (by omega) rfl rfl).front (M - F) (by rw [List.length_drop]; omega), B3.out⟩
  · rw [Nat.min_eq_right m1] at HEH
    clear m1 hmm
    have hw1 := HW1.out
    have hwm := HWM.out
    go_wp2_with fail
    go_ret2
    exact ⟨_, rfl, by rw [HEH.out]; exact (((HV.out.below B3.out).mono (Nat.zero_le _) (Nat.le_trans hhi B3.out.size)).behind F (vs.length - F) (cap - F) (by omega) rfl rfl).front (vs.length - F) (by rw [List.length_drop]; omega), B3.out⟩
end Go.Proofs.Ytnndeiiolnefkaa
