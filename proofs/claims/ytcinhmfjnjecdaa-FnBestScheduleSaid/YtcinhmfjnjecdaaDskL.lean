/-
  Draws of times and of numbers of engines. No conditions but that the bytes that came in can be read.
-/
import Derived.Test.YtcinhmfjnjecdaaDskK
import Derived.Test.YtcinhmfjnjecdaaKitP
import Derived.Test.YtcinhmfjnjecdaaKitT
import Derived.Deep.AppendLies
import Derived.Deep.RegionLaw
import Derived.Deep.LoopGhost
namespace Go.Proofs.Ytcinhmfjnjecdaa
set_option maxRecDepth 4000
open Go.RowKit
/-- Drawn times. -/
def TimesD (r B : Nat) (w : World) (e : Ending) (w' : World) : Prop := ∃ (v : Value) (zs : List Int), e = .returned v ∧ w'.ownsRow w.heap.size 3 1 v zs.length (ints zs) ∧ zs.length ≤ 9 ∧ Rd w' r (B + 40) ∧ Onto r w w'
def cntNums8 : List Int := [4, 5, 3, 6, 2, 0]
def tmNums8 : List Int := [-1, 1000, 1001, 9223372036854775807]
def enNums8 : List Int := [0, 4, -1]
set_option maxHeartbeats 4000000 in
theorem times8_any (r B : Nat) (w : World) (h : Rd w r B) (hB : B ≤ 700000) : Calls Try.prog 27 #[.pointer (some ⟨r, 0, none⟩)] w (TimesD r B w) := by
  obtain ⟨i0, hi0, hz0, hz1, hz2⟩ := info_parts infoInt
  have hr := h.lt
  have HO := hidH (World.ownsRow_made (base := w.heap.size) (e := 3) (size := 1) w #[] 0 (Nat.le_refl _) (Nat.zero_le _) rfl)
  have HR0 := hidH (h.onto ((Below.refl _ _).alloc (Nat.le_refl _) (.cells #[] 3)))
  clear h
  go_enter Try.func27, Try.ntmps27
  go_wp2_with fail
  have hN := num_any (w.heap.size + 1) 0 cntNums8 r B ((w.alloc (.cells #[] 3)).alloc (.cells (intC cntNums8) 3)) (HR0.out.onto ((Below.refl _ _).alloc (Nat.le_refl _) _)) (by omega) (by decide) (by decide) (by have := ints_new (w.alloc (.cells #[] 3)) r 3 cntNums8 HR0.out.lt; simpa using this)
  refine hN.mono ?_
  rintro e w1 ⟨sz, hsz, rfl, hR1, hO1⟩
  have hs : 0 ≤ sz ∧ sz ≤ 6 := by
    have h : cntNums8.all (fun z => decide (0 ≤ z ∧ z ≤ 6)) = true := by decide
    exact of_decide_eq_true (List.all_eq_true.1 h sz hsz)
  obtain ⟨q, rfl⟩ : ∃ q : Nat, sz = (q : Int) := ⟨sz.toNat, by omega⟩
  have hq6 : q ≤ 6 := by omega
  have H1 := hidH hR1
  have O1 := hidH (((Onto.refl r w).alloc (.cells #[] 3)).trans (((Onto.refl r _).alloc (.cells (intC cntNums8) 3)).trans hO1))
  have W1 := hidH (owns_onto (owns_below HO.out ((Below.refl _ _).alloc (Nat.le_refl _) _)) hO1 hr)
  clear hN hsz hR1 hO1 hs HO HR0
  go_wp2_with fail
  go_loopw [3, 4] (fun o i wr => ∃ (k j : Nat) (ov : Value) (zs : List Int), k + j = q ∧ zs.length = k ∧ i = .int .i64 j ∧ ov = o ∧ wr.ownsRow w.heap.size 3 1 ov k (ints zs) ∧ Rd wr r (B + 1 + k) ∧ Onto r w wr) (fun _ i _ => (intOf i).toNat)
  case atStart => exact ⟨0, q, _, [], by omega, rfl, rfl, rfl, W1.out, H1.out, O1.out⟩
  case round =>
    obtain ⟨k, j, ov, zs, hkj, hlz, rfl, rfl, hown, hrd, ho⟩ := hrel
    have HKJ := hidH hkj
    have HLZ := hidH hlz
    have HW := hidH hown
    have HR := hidH hrd
    have HQ := hidH ho
    have hk6 : k + j ≤ 6 := by omega
    have hsz : w.heap.size ≤ wr.heap.size := ho.size
    clear hkj hlz hown hrd ho W1 O1 H1
    by_cases hlt : 0 < j
    · go_wp2_with fail
      refine (pick_any 20 r _ wr HR.out (by omega)).mono ?_
      rintro e w2 ⟨x, rfl, x0, x1, hR2, hO2⟩
      have H2 := hidH hR2
      have Q2 := hidH (HQ.out.trans hO2)
      have W2 := hidH (owns_onto HW.out hO2 hr)
      have hs2 := Q2.out.size
      clear x0 x1 hR2 hO2 HR HQ HW
      go_wp2_with (at_builtin; refine wpList_append_own _ rfl _ _ 23 rfl w.heap.size 3 i0 (.int .i64 0) 1 8 Try.underlying23 hi0 hz0 hz1 hz2 rfl (by decide) _ _ _ rfl (owns_below W2.out ((Below.refl _ w2).alloc (Nat.le_refl _) _)) ⟨w2.heap.size, 0, none⟩ 1 1 [.int .i64 x] rfl rfl (news_one w2 _ _) (one_one _) (by unfold maxLen; omega) (by omega) (by simp; omega) ?_)
      intro v5 w5 hown1 hgrow _
      have HXa := hidH (show w5.ownsRow w.heap.size 3 1 v5 (k + 1) (ints (zs ++ [x])) by rw [ints_append]; exact hown1)
      have HBLa := hidH (OntoB.of_below (r := r) (base := w.heap.size) (a := w2) (b := w5) (((Below.refl w.heap.size w2).alloc (by omega) _).grown hgrow (by simp; omega) (fun g hg => (W2.out.lt g hg).1)))
      have RLa := hidH (H2.out.low (((Below.refl (r + 1) w2).alloc (by have := H2.out.lt; omega) _).grown hgrow (by simp; have := H2.out.lt; omega) (fun g hg => by have := (W2.out.lt g hg).1; omega)))
      have QLa := hidH ((Q2.out.toB (Nat.le_refl _)).trans HBLa.out).onto
      clear hown1 hgrow HBLa
      go_wp2_with fail
      go_roundw
      case rel =>
        have hkj := HKJ.out
        exact ⟨k + 1, j - 1, v5, zs ++ [x], by omega, by rw [List.length_append, HLZ.out]; rfl, by rw [show ((j - 1 : Nat) : Int) = (j : Int) - 1 by omega], rfl, HXa.out, RLa.out.more (by omega), QLa.out⟩
      case measure => simp [intOf]; omega
    · obtain rfl : j = 0 := by omega
      have hkq : k = q := by have := HKJ.out; omega
      subst hkq
      clear hlt HKJ
      go_wp2_with fail
      refine (pick_any 20 r _ wr HR.out (by omega)).mono ?_
      rintro e w2 ⟨x, rfl, x0, x1, hR2, hO2⟩
      have H2 := hidH hR2
      have Q2 := hidH (HQ.out.trans hO2)
      have W2 := hidH (owns_onto HW.out hO2 hr)
      have hs2 := Q2.out.size
      clear x0 x1 hR2 hO2 HR HQ HW
      by_cases e0 : x = 0
      · have b0 : (x == 0) = true := beq_iff_eq.2 e0
        clear e0
        go_wp2_with fail
        have hN := num_any w2.heap.size 0 tmNums8 r _ (w2.alloc (.cells (intC tmNums8) 3)) (H2.out.onto ((Below.refl _ _).alloc (Nat.le_refl _) _)) (by omega) (by decide) (by decide) (ints_new _ _ _ _ H2.out.lt)
        refine hN.mono ?_
        rintro e w3 ⟨y, hy, rfl, hR3, hO3⟩
        have H3 := hidH hR3
        have Q3 := hidH (Q2.out.trans (((Onto.refl _ _).alloc (.cells (intC tmNums8) 3)).trans hO3))
        have W3 := hidH (owns_onto (owns_below W2.out ((Below.refl _ _).alloc (Nat.le_refl _) (.cells (intC tmNums8) 3))) hO3 hr)
        have hs3 := Q3.out.size
        clear hN hy hR3 hO3 H2 Q2 W2
        go_wp2_with (at_builtin; refine wpList_append_own _ rfl _ _ 23 rfl w.heap.size 3 i0 (.int .i64 0) 1 8 Try.underlying23 hi0 hz0 hz1 hz2 rfl (by decide) _ _ _ rfl (owns_below W3.out ((Below.refl _ w3).alloc (Nat.le_refl _) _)) ⟨w3.heap.size, 0, none⟩ 1 1 [.int .i64 y] rfl rfl (news_one w3 _ _) (one_one _) (by unfold maxLen; omega) (by omega) (by simp; omega) ?_)
        intro v5 w5 hown1 hgrow _
        have HXb := hidH (show w5.ownsRow w.heap.size 3 1 v5 (k + 1) (ints (zs ++ [y])) by rw [ints_append]; exact hown1)
        have HBLb := hidH (OntoB.of_below (r := r) (base := w.heap.size) (a := w3) (b := w5) (((Below.refl w.heap.size w3).alloc (by omega) _).grown hgrow (by simp; omega) (fun g hg => (W3.out.lt g hg).1)))
        have RLb := hidH (H3.out.low (((Below.refl (r + 1) w3).alloc (by have := H3.out.lt; omega) _).grown hgrow (by simp; have := H3.out.lt; omega) (fun g hg => by have := (W3.out.lt g hg).1; omega)))
        have QLb := hidH ((Q3.out.toB (Nat.le_refl _)).trans HBLb.out).onto
        clear hown1 hgrow HBLb
        go_wp2_with fail
        go_ret
        exact ⟨v5, zs ++ [y], rfl, by rw [List.length_append, HLZ.out]; exact HXb.out, by rw [List.length_append, HLZ.out]; simp; omega, RLb.out.more (by omega), QLb.out⟩
      · have b0 : (x == 0) = false := beq_eq_false_iff_ne.2 e0
        clear e0
        by_cases e1 : x = 1
        · have b1 : (x == 1) = true := beq_iff_eq.2 e1
          clear e1
          go_wp2_with fail
          go_loopg [3] (9 - k) (fun g o wr => ∃ (k : Nat) (ov : Value) (zs : List Int), k + g = 9 ∧ zs.length = k ∧ ov = o ∧ wr.ownsRow w.heap.size 3 1 ov k (ints zs) ∧ Rd wr r (B + 20) ∧ Onto r w wr)
          case atStart => exact ⟨k, ov, zs, by omega, HLZ.out, rfl, W2.out, H2.out.more (by omega), Q2.out⟩
          case round =>
            obtain ⟨k, ov, zs, hkg, hlz, rfl, hown, hrd, ho⟩ := hrel
            have HLZ := hidH hlz
            have W2 := hidH hown
            have H2 := hidH hrd
            have Q2 := hidH ho
            have hs2 : w.heap.size ≤ wr.heap.size := ho.size
            have hr2 := hrd.lt
            clear hlz hown hrd ho
            have HOF := hidH (owns_form W2.out)
            cases gk with
            | zero =>
              obtain rfl : k = 9 := by omega
              obtain ⟨gg, cap, rfl, hc1, hc2, _, _⟩ := HOF.out (by omega)
              unfold maxLen at hc2
              go_wp2_with fail
              go_ret
              exact ⟨_, zs, rfl, by rw [HLZ.out]; exact W2.out, by rw [HLZ.out]; exact Nat.le_refl _, H2.out.more (by omega), Q2.out⟩
            | succ g =>
              have hLEN : ∃ av, av = ov := ⟨ov, rfl⟩
              obtain ⟨ad, cp, hov, hcp⟩ : ∃ (ad : Option Addr) (cp : Nat), ov = .slice ad k cp ∧ cp ≤ 9223372036854775807 := by
                obtain ⟨hl, hv⟩ := W2.out
                rcases hv with ⟨rfl, rfl⟩ | ⟨g1, cap, cur, rfl, _, _, _, hc, _, _⟩
                · exact ⟨none, 0, rfl, by omega⟩
                · exact ⟨_, cap, rfl, by unfold maxLen at hc; omega⟩
              subst hov
              clear hLEN
              go_wp2_with (at_builtin; refine wpList_append_own _ rfl _ _ 23 rfl w.heap.size 3 i0 (.int .i64 0) 1 8 Try.underlying23 hi0 hz0 hz1 hz2 rfl (by decide) _ _ _ rfl (owns_below W2.out ((Below.refl _ wr).alloc (Nat.le_refl _) _)) ⟨wr.heap.size, 0, none⟩ 1 1 [.int .i64 1] rfl rfl (news_one wr _ _) (one_one _) (by unfold maxLen; omega) (by omega) (by simp; omega) ?_)
              intro v5 w5 hown1 hgrow _
              have HXc := hidH (show w5.ownsRow w.heap.size 3 1 v5 (k + 1) (ints (zs ++ [(1 : Int)])) by rw [ints_append]; exact hown1)
              have HBLc := hidH (OntoB.of_below (r := r) (base := w.heap.size) (a := wr) (b := w5) (((Below.refl w.heap.size wr).alloc (by omega) _).grown hgrow (by simp; omega) (fun g hg => (W2.out.lt g hg).1)))
              have RLc := hidH (H2.out.low (((Below.refl (r + 1) wr).alloc (by have := H2.out.lt; omega) _).grown hgrow (by simp; have := H2.out.lt; omega) (fun g hg => by have := (W2.out.lt g hg).1; omega)))
              have QLc := hidH ((Q2.out.toB (Nat.le_refl _)).trans HBLc.out).onto
              clear hown1 hgrow HBLc
              go_wp2_with fail
              go_roundg g
              case measure => omega
              case rel => exact ⟨k + 1, v5, zs ++ [1], by omega, by rw [List.length_append, HLZ.out]; rfl, rfl, HXc.out, RLc.out, QLc.out⟩
        · have b1 : (x == 1) = false := beq_eq_false_iff_ne.2 e1
          clear e1
          go_wp2_with fail
          go_ret
          exact ⟨_, zs, rfl, by rw [HLZ.out]; exact W2.out, by rw [HLZ.out]; omega, H2.out.more (by omega), Q2.out⟩

theorem number8_any (r B : Nat) (w : World) (h : Rd w r B) (hB : B ≤ 900000) : Calls Try.prog 28 #[.pointer (some ⟨r, 0, none⟩)] w fun e w' => ∃ n : Int, e = .returned (.int .i64 n) ∧ -1 ≤ n ∧ n ≤ 4 ∧ Rd w' r (B + 2) ∧ Onto r w w' := by
  have HP := hidH (pick_any 12 r B w h (by omega))
  clear h
  go_enter Try.func28, Try.ntmps28
  go_wp2_with fail
  refine HP.out.mono ?_
  rintro e w1 ⟨x, rfl, x0, x1, hR, hO⟩
  have HR := hidH hR
  have HO := hidH hO
  clear hR hO x1 HP
  by_cases e0 : x = 0
  · have b0 : (x == 0) = true := beq_iff_eq.2 e0
    clear e0
    go_wp2_with fail
    have hN := num_any w1.heap.size 0 enNums8 r (B + 1) (w1.alloc (.cells (intC enNums8) 3)) (HR.out.onto ((Below.refl _ _).alloc (Nat.le_refl _) _)) (by omega) (by decide) (by decide) (ints_new _ _ _ _ HR.out.lt)
    refine hN.mono ?_
    rintro e w2 ⟨z, hz, rfl, hR2, hO2⟩
    have hzb : -1 ≤ z ∧ z ≤ 4 := by
      have h : enNums8.all (fun z => decide (-1 ≤ z ∧ z ≤ 4)) = true := by decide
      exact of_decide_eq_true (List.all_eq_true.1 h z hz)
    have H2 := hidH hR2
    have O2 := hidH hO2
    clear hN hz hR2 hO2
    go_wp2_with fail
    go_ret
    exact ⟨z, rfl, hzb.1, hzb.2, H2.out.more (by omega), HO.out.trans (((Onto.refl _ _).alloc _).trans O2.out)⟩
  · have b0 : (x == 0) = false := beq_eq_false_iff_ne.2 e0
    clear e0
    go_wp2_with fail
    refine (pick_any 3 r (B + 1) w1 HR.out (by omega)).mono ?_
    rintro e w2 ⟨y, rfl, y0, y1, hR2, hO2⟩
    have H2 := hidH hR2
    have O2 := hidH hO2
    have y2 := y1 (by omega)
    clear y1 hR2 hO2
    go_wp2_with fail
    go_ret
    exact ⟨1 + y, rfl, by omega, by omega, H2.out.more (by omega), HO.out.trans O2.out⟩
/-- Drawn times and a number of engines. -/
def DrawTN (w : World) (e : Ending) (w' : World) : Prop := ∃ (v : Value) (zs : List Int) (n : Int), e = .returned (.tuple #[v, .int .i64 n]) ∧ Lies w' 0 w'.heap.size v zs ∧ zs.length ≤ 9 ∧ -1 ≤ n ∧ n ≤ 4 ∧ Below w.heap.size w w'
theorem drawGreedy8 (a : Option Addr) (len cap : Nat) (w : World) (hc : Came w a len cap) (hl : len ≤ 1048576) : Calls Try.prog 20 #[.slice a len cap] w (DrawTN w) := by
  have HO := hidH (opened_any a len cap w hc hl)
  clear hc
  go_enter Try.func20, Try.ntmps20
  go_wp2_with fail
  refine HO.out.mono ?_
  rintro e w1 ⟨rfl, hR, hB⟩
  have R1 := hidH hR
  have B1 := hidH hB
  have s1 := hB.size
  have hr1 := hR.lt
  clear hR hB HO
  go_wp2_with fail
  refine (times8_any w.heap.size _ w1 R1.out (by omega)).mono ?_
  rintro e w2 ⟨v, zs, rfl, hown, hl9, hR, hO⟩
  have R2 := hidH hR
  have O2 := hidH hO
  have W2 := hidH hown
  clear hR hO hown
  go_wp2_with fail
  refine (number8_any w.heap.size _ w2 R2.out (by omega)).mono ?_
  rintro e w3 ⟨n, rfl, n0, n1, hR, hO⟩
  have O3 := hidH (O2.out.trans hO)
  have W3 := hidH (owns_onto W2.out hO hr1)
  clear hR hO
  go_wp2_with fail
  go_ret2
  exact ⟨v, zs, n, rfl, (row_of_owns W3.out).1.lies.top, hl9, n0, n1, B1.out.trans (O3.out.below (Nat.le_refl _) s1)⟩
theorem drawBest8 (a : Option Addr) (len cap : Nat) (w : World) (hc : Came w a len cap) (hl : len ≤ 1048576) : Calls Try.prog 12 #[.slice a len cap] w (DrawTN w) := by
  have HD := hidH (drawGreedy8 a len cap w hc hl)
  clear hc
  go_enter Try.func12, Try.ntmps12
  go_wp2_with fail
  refine HD.out.mono ?_; rintro e w1 ⟨v, zs, n, rfl, h1, h2, h3, h4, hb⟩
  go_wp2_with fail
  go_ret2
  exact ⟨v, zs, n, rfl, h1, h2, h3, h4, hb⟩
theorem drawLeast8 (a : Option Addr) (len cap : Nat) (w : World) (hc : Came w a len cap) (hl : len ≤ 1048576) : Calls Try.prog 18 #[.slice a len cap] w (DrawTN w) := by
  have HD := hidH (drawGreedy8 a len cap w hc hl)
  clear hc
  go_enter Try.func18, Try.ntmps18
  go_wp2_with fail
  refine HD.out.mono ?_; rintro e w1 ⟨v, zs, n, rfl, h1, h2, h3, h4, hb⟩
  go_wp2_with fail
  go_ret2
  exact ⟨v, zs, n, rfl, h1, h2, h3, h4, hb⟩
end Go.Proofs.Ytcinhmfjnjecdaa
