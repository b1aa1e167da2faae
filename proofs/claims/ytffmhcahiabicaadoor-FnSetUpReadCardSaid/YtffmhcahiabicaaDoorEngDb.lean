/-
  Drawn engines. Condition: the reader has been asked at most 700,000 times.
  Drawn engines that are sometimes not valid. Condition: the reader has been asked at most 700,000 times.
-/
import Derived.Test.YtffmhcahiabicaaDoorEngDa
import Derived.Test.YtffmhcahiabicaaDoorKitP
import Derived.Test.YtffmhcahiabicaaDoorEngBox
import Derived.Test.YtffmhcahiabicaaDoorEngV
import Derived.Deep.AppendLies
import Derived.Deep.RegionWith
import Derived.Deep.RegionLaw
namespace Go.Proofs.YtffmhcahiabicaaDoor
set_option maxRecDepth 4000
set_option linter.unusedVariables false
open Go.RowKit
def engNums : List Int := [3, 4, 1, 2, 5, 7]
theorem ok_showB (n : Int) (wd : Nat) (h1 : 1 ≤ wd) (h2 : wd ≤ 12) : ok ⟨(showB n wd).toArray⟩ = true ∧ (⟨(showB n wd).toArray⟩ : ByteArray).size = wd := by
  refine ⟨(ok_iff _).2 ⟨fun c hc => showB_ok n wd c hc, ?_, ?_⟩, ?_⟩
  · show 1 ≤ (showB n wd).toArray.size
    simp [showB_length]; omega
  · show (showB n wd).toArray.size ≤ 12
    simp [showB_length]; omega
  · show (showB n wd).toArray.size = wd
    simp [showB_length]
theorem engAt_onto {w w' : World} {b r : Nat} {v : Value} (h : EngAt w b v) (ho : Onto r w w') (hr : b ≠ r) : EngAt w' b v := h.onto ho hr
theorem owns_nilT (w : World) (base e : Nat) : w.ownsRow base e 1 (.slice none 0 0) 0 (intsS []) := ⟨rfl, .inl ⟨rfl, rfl⟩⟩
/-- A drawn engine: of 1 to 7 columns of one width. -/
def SomeEng (r B : Nat) (w : World) (e : Ending) (w' : World) : Prop := ∃ (v : Value) (cs : List ByteArray), e = .returned (.agg #[v]) ∧ w'.ownsRow (w.heap.size + 2) 9 1 v cs.length (intsS cs) ∧ engOk cs = true ∧ Rd w' r (B + 300) ∧ Onto r w w'
theorem eng3_bd (cs : List ByteArray) (wd : Nat) (q : Int) (hq : q ∈ engNums) (hl : (cs.length : Int) = q) (h : ∀ c ∈ cs, ok c = true ∧ c.size = wd) : engOk cs = true := by
  have hb : 1 ≤ q ∧ q ≤ 7 := by
    have h : engNums.all (fun z => decide (1 ≤ z ∧ z ≤ 7)) = true := by decide
    exact of_decide_eq_true (List.all_eq_true.1 h q hq)
  exact engOk_of cs wd (by omega) (by omega) h
theorem bRow' (B : Nat) (w : World) (b : Nat) (hb : B ≤ b) (cs : Array Value) : Below B w (w.setRow b cs) :=
  ⟨rfl, rfl, rfl, by simp, fun k hk => by rw [setRow_other w b k cs (by omega)]⟩
set_option maxHeartbeats 4000000 in
theorem someE_any (r B : Nat) (w : World) (h : Rd w r B) (hB : B ≤ 700000) : Calls Tryd.prog 55 #[.pointer (some ⟨r, 0, none⟩)] w (SomeEng r B w) := by
  obtain ⟨i0, hi0, hz0, hz1, hz2⟩ := info_parts infoText
  have hr := h.lt
  have E1 := hidH (EngAt.fresh w (.slice none 0 0))
  have E2 := hidH (EngAt.newAt (w.alloc (.cells #[.slice none 0 0] 26)) (.slice none 0 0) (w.heap.size + 1) (by simp))
  have BB := hidH (bMore (belowN' w (.slice none 0 0)) (.cells #[.slice none 0 0] 26))
  have F1 := hidH (E1.out.alloc (.cells #[.slice none 0 0] 26))
  have SS := hidH (show ((w.alloc (.cells #[.slice none 0 0] 26)).alloc (.cells #[.slice none 0 0] 26)).heap.size = w.heap.size + 2 by simp)
  have HR := hidH (h.onto BB.out)
  have OO := hidH (Onto.of_below (r := r) BB.out)
  clear h
  have OW0 := hidH (owns_nilT ((w.alloc (.cells #[.slice none 0 0] 26)).alloc (.cells #[.slice none 0 0] 26)) (w.heap.size + 2) 9)
  go_enter Tryd.func55, Tryd.ntmps55
  go_wp2_with fail
  refine (any_any r B _ HR.out (by omega)).mono ?_
  rintro e w1 ⟨wd, hwd1, hwd2, rfl, hR, hO⟩
  have R1 := hidH hR
  have O1 := hidH (OO.out.trans hO)
  have EM1 := hidH (E2.out.onto hO (by omega))
  have ER1 := hidH (F1.out.onto hO (by omega))
  have hs1 := hO.size
  rw [SS.out] at hs1
  clear hR hO
  go_wp2_with fail
  have hN := num_any w1.heap.size 0 engNums r (B + 1) (w1.alloc (.cells (intC engNums) 3)) (R1.out.onto ((Below.refl _ _).alloc (Nat.le_refl _) _)) (by omega) (by decide) (by decide) (ints_new w1 r 3 engNums R1.out.lt)
  refine hN.mono ?_
  rintro e w2 ⟨q, hq, rfl, hR2, hO2⟩
  have hqb : 1 ≤ q ∧ q ≤ 7 := by
    have h : engNums.all (fun z => decide (1 ≤ z ∧ z ≤ 7)) = true := by decide
    exact of_decide_eq_true (List.all_eq_true.1 h q hq)
  have HQ := hidH hq
  have R2 := hidH hR2
  have O2 := hidH (O1.out.trans (((Onto.refl r w1).alloc (.cells (intC engNums) 3)).trans hO2))
  have EM2 := hidH ((EM1.out.alloc (.cells (intC engNums) 3)).onto hO2 (by omega))
  have ER2 := hidH ((ER1.out.alloc (.cells (intC engNums) 3)).onto hO2 (by omega))
  have OW2 := hidH (owns_nilT w2 (w.heap.size + 2) 9)
  clear hN hq hR2 hO2
  obtain ⟨q1, q7⟩ := hqb
  obtain ⟨qn, hqn⟩ : ∃ qn : Nat, q = qn := ⟨q.toNat, by omega⟩
  subst hqn
  go_wp2
  go_loopw [5] (fun i wr => ∃ (k j : Nat) (ov : Value) (cs : List ByteArray), k + j = qn ∧ cs.length = k ∧ i = .int .i64 j ∧ EngAt wr (w.heap.size + 1) ov ∧ EngAt wr w.heap.size (.slice none 0 0) ∧ wr.ownsRow (w.heap.size + 2) 9 1 ov k (intsS cs) ∧ (∀ c ∈ cs, ok c = true ∧ c.size = wd) ∧ Rd wr r (B + 2 + 28 * k) ∧ Onto r w wr) (fun i _ => (intOf i).toNat)
  case atStart => exact ⟨0, qn, _, [], by omega, rfl, rfl, EM2.out, ER2.out, OW2.out, fun _ h => absurd h (by simp), R2.out, O2.out⟩
  case round =>
    obtain ⟨k, j, ov, cs, hkj, hcl, rfl, hE, hE0, hown, hall, hrd, ho⟩ := hrel
    have HKJ := hidH hkj
    have HCL := hidH hcl
    have EM3 := hidH hE
    have ER3 := hidH hE0
    have OW3 := hidH hown
    have HALL := hidH hall
    have R3 := hidH hrd
    have O3 := hidH ho
    have hkq : k + j ≤ 7 := by omega
    have hs3 : w.heap.size + 2 ≤ wr.heap.size := by have := hE.lt; omega
    clear hkj hcl hE hE0 hown hall hrd ho
    by_cases hlt : 0 < j
    · go_wp2_with fail
      refine (someD_any wd r _ _ R3.out (by omega) hwd1 hwd2).mono ?_
      rintro e w4 ⟨x, hxk, hxs, rfl, hR4, hO4⟩
      have HX := hidH (And.intro hxk hxs)
      have R4 := hidH hR4
      have O4 := hidH (O3.out.trans hO4)
      have EM4 := hidH (EM3.out.onto hO4 (by omega))
      have ER4 := hidH (ER3.out.onto hO4 (by omega))
      have OW4 := hidH (owns_onto OW3.out hO4 (by omega))
      clear hR4 hO4 hxk
      go_wp2_with fail
      refine (pick_any 3 r _ _ R4.out (by omega)).mono ?_
      rintro e w5 ⟨y, rfl, y0, y1, hR5, hO5⟩
      have R5 := hidH hR5
      have O5 := hidH (O4.out.trans hO5)
      have EM5 := hidH (EM4.out.onto hO5 (by omega))
      have ER5 := hidH (ER4.out.onto hO5 (by omega))
      have OW5 := hidH (owns_onto OW4.out hO5 (by omega))
      clear hR5 hO5 y1
      by_cases hy : 0 < y
      · go_wp2_with fail
        refine (pick_any 256 r _ _ R5.out (by omega)).mono ?_
        rintro e w6 ⟨z, rfl, z0, z1, hR6, hO6⟩
        have z2 := z1 (by omega)
        have R6 := hidH hR6
        have O6 := hidH (O5.out.trans hO6)
        have EM6 := hidH (EM5.out.onto hO6 (by omega))
        have ER6 := hidH (ER5.out.onto hO6 (by omega))
        have OW6 := hidH (owns_onto OW5.out hO6 (by omega))
        clear hR6 hO6 z1
        go_wp2_with fail
        refine (sShow_any (z - 100) wd hwd2 _).mono ?_
        rintro e w7 ⟨rfl, hb⟩
        have HXs := hidH (ok_showB (z - 100) wd hwd1 hwd2)
        have R7 := hidH (R6.out.onto hb)
        have O7 := hidH (O6.out.trans (Onto.of_below hb))
        have EM7 := hidH (EM6.out.below hb)
        have ER7 := hidH (ER6.out.below hb)
        have OW7 := hidH (owns_below OW6.out hb)
        clear hb
        generalize (⟨(showB (z - 100) wd).toArray⟩ : ByteArray) = xs at *
        have c2 := EM7.out.cell
        have E2a := hidH (EM7.out.alloc (.cells #[.string xs] 9))
        have c2a := E2a.out.cell
        have hs2 : w.heap.size + 2 ≤ w7.heap.size := by have := EM7.out.lt; omega
        go_wp2_with (at_builtin; refine wpList_append_lies _ rfl _ _ 22 rfl (w.heap.size + 2) 9 i0 (.string ⟨#[]⟩) 1 16 Tryd.underlying22 hi0 hz0 hz1 hz2 rfl (by decide) ov k (intsS cs) rfl (OW7.out.alloc _) ⟨w7.heap.size, 0, none⟩ 1 1 [.string xs] rfl rfl (news_oneS w7 _ _) (one_oneS _) (by decide) (by unfold maxLen; omega) (by omega) (by simp; omega) (w7.heap.size + 1) (by simp) ?_)
        intro g9 cap9 w9 hown9 hgrow9 _ _
        have HBL := hidH (((Below.refl (w.heap.size + 2) w7).alloc hs2 (.cells #[.string xs] 9)).grown hgrow9 (by simp; omega) fun g hg => (OW7.out.lt g hg).1)
        have E9 := hidH (EM7.out.lowB HBL.out (by omega))
        have R9 := hidH (ER7.out.lowB HBL.out (by omega))
        have D9 := hidH (R7.out.low (HBL.out.mono (by omega)))
        have HO9 := hidH hown9
        have ON9 := hidH (O7.out.toB (Nat.le_refl _) |>.trans (OntoB.of_below (r := r) (HBL.out.mono (show w.heap.size ≤ w.heap.size + 2 by omega))) |>.onto)
        have c9 := E9.out.cell
        have f9 := E9.out.free 0
        clear hown9 hgrow9 c2 c2a
        go_wp2_with fail
        go_roundw
        case rel =>
          have hkj := HKJ.out
          refine ⟨k + 1, j - 1, _, cs ++ [xs], by omega, by rw [List.length_append, HCL.out]; rfl, by rw [show ((j - 1 : Nat) : Int) = (j : Int) - 1 by omega], E9.out.put _, R9.out.setCell _ _ (by show w.heap.size ≠ w.heap.size + 1; omega), ?_, ?_, ?_, ON9.out.setNew (by omega) _ _⟩
          · rw [ints_appendS]
            exact owns_onto HO9.out (Onto.setCell (w.heap.size + 1) 0 w9 _) (by omega)
          · intro c hc
            rcases List.mem_append.1 hc with hc | hc
            · exact HALL.out c hc
            · have := List.mem_singleton.1 hc
              rw [this]
              exact HXs.out
          · exact (D9.out.set (by omega) _ _).more (by omega)
        case measure => simp [intOf] <;> omega
      · have y00 : decide ((0 : Int) < y) = false := decide_eq_false hy
        clear hy
        have c2 := EM5.out.cell
        have E2a := hidH (EM5.out.alloc (.cells #[.string x] 9))
        have c2a := E2a.out.cell
        have hs2 : w.heap.size + 2 ≤ w5.heap.size := by have := EM5.out.lt; omega
        go_wp2_with (at_builtin; refine wpList_append_lies _ rfl _ _ 22 rfl (w.heap.size + 2) 9 i0 (.string ⟨#[]⟩) 1 16 Tryd.underlying22 hi0 hz0 hz1 hz2 rfl (by decide) ov k (intsS cs) rfl (OW5.out.alloc _) ⟨w5.heap.size, 0, none⟩ 1 1 [.string x] rfl rfl (news_oneS w5 _ _) (one_oneS _) (by decide) (by unfold maxLen; omega) (by omega) (by simp; omega) (w5.heap.size + 1) (by simp) ?_)
        intro g9 cap9 w9 hown9 hgrow9 _ _
        have HBL := hidH (((Below.refl (w.heap.size + 2) w5).alloc hs2 (.cells #[.string x] 9)).grown hgrow9 (by simp; omega) fun g hg => (OW5.out.lt g hg).1)
        have E9 := hidH (EM5.out.lowB HBL.out (by omega))
        have R9 := hidH (ER5.out.lowB HBL.out (by omega))
        have D9 := hidH (R5.out.low (HBL.out.mono (by omega)))
        have HO9 := hidH hown9
        have ON9 := hidH (O5.out.toB (Nat.le_refl _) |>.trans (OntoB.of_below (r := r) (HBL.out.mono (show w.heap.size ≤ w.heap.size + 2 by omega))) |>.onto)
        have c9 := E9.out.cell
        have f9 := E9.out.free 0
        clear hown9 hgrow9 c2 c2a
        go_wp2_with fail
        go_roundw
        case rel =>
          have hkj := HKJ.out
          refine ⟨k + 1, j - 1, _, cs ++ [x], by omega, by rw [List.length_append, HCL.out]; rfl, by rw [show ((j - 1 : Nat) : Int) = (j : Int) - 1 by omega], E9.out.put _, R9.out.setCell _ _ (by show w.heap.size ≠ w.heap.size + 1; omega), ?_, ?_, ?_, ON9.out.setNew (by omega) _ _⟩
          · rw [ints_appendS]
            exact owns_onto HO9.out (Onto.setCell (w.heap.size + 1) 0 w9 _) (by omega)
          · intro c hc
            rcases List.mem_append.1 hc with hc | hc
            · exact HALL.out c hc
            · have := List.mem_singleton.1 hc
              rw [this]
              exact HX.out
          · exact (D9.out.set (by omega) _ _).more (by omega)
        case measure => simp [intOf] <;> omega
    · obtain rfl : j = 0 := by omega
      have hkq2 : k = qn := by have := HKJ.out; omega
      have HOWN := hidH (show wr.ownsRow (w.heap.size + 2) 9 1 ov cs.length (intsS cs) by rw [HCL.out]; exact OW3.out)
      have HRW := hidH (row_of_ownsS HOWN.out).1
      obtain ⟨ao, co, rfl⟩ := HRW.out.some
      have HEO := hidH (eng3_bd cs wd qn HQ.out (by rw [HCL.out, hkq2]) HALL.out)
      have SZ := hidH (eng_size (.slice ao cs.length co))
      have SO := hidH (slice_one ao cs.length co)
      go_wp2_with (first | (refine wpList_load_row rfl 26 _ rfl (w.heap.size + 1) rfl 26 _ (0, 0) _ EM3.out Tryd.underlying26 rfl SZ.out ?_) | (refine wpList_store_row rfl 26 _ _ rfl w.heap.size #[.slice ao cs.length co] rfl rfl 26 _ ER3.out SZ.out rfl SO.out ?_))
      refine bodyPost_ret (results_eng Tryd.results55 _ _ w.heap.size _ rfl (ER3.out.setRow _)) rfl ?_
      refine ⟨_, cs, rfl, ?_, HEO.out, ?_, ?_⟩
      · exact owns_onto HOWN.out (onto_setRow w.heap.size _ _) (by omega)
      · exact (R3.out.low (B := B + 2 + 28 * k) (bRow' (r + 1) wr w.heap.size (by omega) _)).more (by omega)
      · exact (O3.out.toB (Nat.le_refl _)).trans (OntoB.of_below (bRow' w.heap.size wr w.heap.size (Nat.le_refl _) _)) |>.onto
end Go.Proofs.YtffmhcahiabicaaDoor
namespace Go.Proofs.YtffmhcahiabicaaDoor
set_option maxRecDepth 4000
set_option linter.unusedVariables false
open Go.RowKit
set_option maxHeartbeats 800000 in
theorem badS_any (c : ByteArray) (hc : c.size ≤ 13) (r B : Nat) (w : World) (h : Rd w r B) (hB : B ≤ 850000) : Calls Tryd.prog 118 #[.pointer (some ⟨r, 0, none⟩), .string c] w (Text1 14 2 r B w) := by
  have HP := hidH (pick_any 40 r B w h (by omega))
  clear h
  go_enter Tryd.func118, Tryd.ntmps118
  go_wp2_with fail
  refine HP.out.mono ?_
  rintro e w1 ⟨x, rfl, x0, x1, hR, hO⟩
  have HR := hidH hR
  have HO := hidH hO
  have x2 := x1 (by omega)
  clear hR hO x1 HP
  by_cases e0 : x = 0
  · have b0 : (x == 0) = true := beq_iff_eq.2 e0
    clear e0
    go_wp2_with fail
    refine (of_any w1.heap.size 0 tails r (B + 1) (w1.alloc (.cells (strC tails) 9)) (HR.out.onto ((Below.refl _ _).alloc (Nat.le_refl _) _)) (by omega) (by decide) (by decide) (strs_new _ _ _ _ HR.out.lt)).mono ?_
    rintro e w2 ⟨z, hz, rfl, hR2, hO2⟩
    have hzs : z.size = 1 := by
      have h : tails.all (fun z => decide (z.size = 1)) = true := by decide
      exact of_decide_eq_true (List.all_eq_true.1 h z hz)
    have H2 := hidH hR2
    have O2 := hidH (HO.out.trans (((Onto.refl _ _).alloc _).trans hO2))
    clear hz hR2 hO2 HR HO
    go_wp2
    go_ret
    exact ⟨c ++ z, by rw [ByteArray.size_append]; omega, rfl, H2.out, O2.out⟩
  · have b0 : (x == 0) = false := beq_eq_false_iff_ne.2 e0
    clear e0
    by_cases e1 : x = 1
    · have b1 : (x == 1) = true := beq_iff_eq.2 e1
      clear e1
      go_wp2
      go_ret
      exact ⟨_, by simp [ByteArray.size], rfl, HR.out.more (by omega), HO.out⟩
    · have b1 : (x == 1) = false := beq_eq_false_iff_ne.2 e1
      clear e1
      by_cases e2 : x = 2
      · have b2 : (x == 2) = true := beq_iff_eq.2 e2
        clear e2
        go_wp2_with fail
        refine (num_any w1.heap.size 0 [12, 13] r (B + 1) (w1.alloc (.cells (intC [12, 13]) 3)) (HR.out.onto ((Below.refl _ _).alloc (Nat.le_refl _) _)) (by omega) (by decide) (by decide) (ints_new _ _ _ _ HR.out.lt)).mono ?_
        rintro e w2 ⟨z, hz, rfl, hR2, hO2⟩
        have hz' : z = 12 ∨ z = 13 := by simpa using hz
        have H2 := hidH hR2
        have O2 := hidH (HO.out.trans (((Onto.refl _ _).alloc _).trans hO2))
        clear hz hR2 hO2 HR HO
        go_wp2_with fail
        refine (many_any z hz' _).mono ?_
        rintro e w3 ⟨s, hs, rfl, rfl⟩
        go_wp2
        go_ret
        exact ⟨s, by omega, rfl, H2.out, O2.out⟩
      · have b2 : (x == 2) = false := beq_eq_false_iff_ne.2 e2
        clear e2
        go_wp2
        go_ret
        exact ⟨c, by omega, rfl, HR.out.more (by omega), HO.out⟩
/-- A drawn engine that is sometimes not valid. -/
def BadEng (r B base : Nat) (w : World) (e : Ending) (w' : World) : Prop := ∃ (v : Value) (cs : List ByteArray), e = .returned (.agg #[v]) ∧ RowS w' base w'.heap.size v cs ∧ cs.length ≤ 8 ∧ (∀ c ∈ cs, c.size ≤ 100) ∧ Rd w' r (B + 4) ∧ OntoB r base w w'
theorem two_boxesE (w : World) (v : Value) (base : Nat) (hb : base ≤ w.heap.size) : Below base w ((w.alloc (.cells #[v] 26)).alloc (.cells #[.slice none 0 0] 26)) ∧ EngAt ((w.alloc (.cells #[v] 26)).alloc (.cells #[.slice none 0 0] 26)) w.heap.size v ∧ EngAt ((w.alloc (.cells #[v] 26)).alloc (.cells #[.slice none 0 0] 26)) (w.heap.size + 1) (.slice none 0 0) ∧ ((w.alloc (.cells #[v] 26)).alloc (.cells #[.slice none 0 0] 26)).heap.size = w.heap.size + 2 :=
  ⟨(bMore (belowN' w v) (.cells #[.slice none 0 0] 26)).mono hb, (EngAt.fresh w v).alloc _, EngAt.newAt _ _ _ (by simp), by simp⟩
theorem engGrown {w w' : World} {b : Nat} {v : Value} {row : Option Nat} (h : EngAt w b v) (hg : w.drew.grownBy w' row) (hne : some b ≠ row) : EngAt w' b v := by
  have hl : b < w.drew.heap.size := h.lt
  have hh : w.drew.heap[b]? = w.heap[b]? := rfl
  unfold EngAt at *
  rw [hg.block b hl hne, hh]
  exact h
theorem owns_set {w : World} {base e n : Nat} {v : Value} {xs : List Value} (h : w.ownsRow base e 1 v n xs) (b i : Nat) (u : Value) (hne : v.ownBlock ≠ some b) : (w.setCell ⟨b, i, none⟩ u).ownsRow base e 1 v n xs :=
  h.kept (row := some b) ⟨rfl, rfl, rfl, by simp, fun k _ hk => Below.heap_setCell w ⟨b, i, none⟩ u k (fun e => hk (by rw [e]))⟩ (.inr hne)
theorem rdDrew {w : World} {r B : Nat} (h : Rd w r B) : Rd w.drew r B := h
theorem ontoDrew (r : Nat) (w : World) : Onto r w w.drew := ⟨rfl, rfl, rfl, Nat.le_refl _, fun _ _ _ => rfl⟩
set_option maxRecDepth 4000 in
set_option maxHeartbeats 4000000 in
theorem badE_any (r B base : Nat) (v : Value) (cs : List ByteArray) (w : World) (h : Rd w r B) (hB : B ≤ 800000) (hown : w.ownsRow base 9 1 v cs.length (intsS cs)) (h1 : 1 ≤ cs.length) (h7 : cs.length ≤ 7) (hsz : ∀ c ∈ cs, c.size ≤ 12) (hr : r < base) (hbs : base ≤ w.heap.size) : Calls Tryd.prog 90 #[.pointer (some ⟨r, 0, none⟩), .agg #[v]] w (BadEng r B base w) := by
  obtain ⟨i0, hi0, hz0, hz1, hz2⟩ := info_parts infoText
  obtain ⟨g, cap, rfl, hgc, hcm, hgb, hgw⟩ := owns_form hown h1
  have ⟨t1, t2, t3, t4⟩ := two_boxesE w (.slice (some ⟨g, 0, none⟩) cs.length cap) base hbs
  have BB := hidH t1
  have E1 := hidH t2
  have E2 := hidH t3
  have S2 := hidH t4
  have cA := t2.cell
  have HW := hidH (owns_below hown ((bMore (belowN' w (.slice (some ⟨g, 0, none⟩) cs.length cap)) (.cells #[.slice none 0 0] 26))))
  have HR := hidH (h.onto ((bMore (belowN' w (.slice (some ⟨g, 0, none⟩) cs.length cap)) (.cells #[.slice none 0 0] 26))))
  have HSZ := hidH hsz
  clear h hown hsz t1 t2 t3 t4
  unfold maxLen at hcm
  go_enter Tryd.func90, Tryd.ntmps90
  go_wp2_with fail
  refine (pick_any cs.length r B _ HR.out (by omega)).mono ?_
  rintro e w1 ⟨x, rfl, x0, x1, hR1, hO1⟩
  have hx := x1 (by omega)
  have R1 := hidH hR1
  have O1 := hidH ((OntoB.of_below (r := r) BB.out).trans (hO1.toB (by rw [S2.out]; omega)))
  have W1 := hidH (owns_onto HW.out hO1 hr)
  have F1 := hidH (E1.out.onto hO1 (by omega))
  have F2 := hidH (E2.out.onto hO1 (by omega))
  have hs1 := hO1.size
  rw [S2.out] at hs1
  clear x1 hR1 hO1 cA
  obtain ⟨k, rfl⟩ := Int.eq_ofNat_of_zero_le x0
  go_wp2_with fail
  refine (pick_any 30 r (B + 1) w1 R1.out (by omega)).mono ?_
  rintro e w2 ⟨t, rfl, t0, t1, hR2, hO2⟩
  have R2 := hidH hR2
  have O2 := hidH (O1.out.trans (hO2.toB (by omega)))
  have W2 := hidH (owns_onto W1.out hO2 hr)
  have K1 := hidH (F1.out.onto hO2 (by omega))
  have K2 := hidH (F2.out.onto hO2 (by omega))
  have hs2 := hO2.size
  have cA := K1.out.cell
  have fA := K1.out.free 0
  have SZA := hidH (fun (q : Option Addr) (n c : Nat) => eng_size (.slice q n c))
  clear t1 hR2 hO2
  by_cases e0 : t = 0
  · subst e0
    obtain ⟨b, cap', hbe, hc1, hc2, hbb, hbh, hblk⟩ := (row_of_ownsS W2.out).1.blk (by omega)
    injection hbe with hb1 hb2 hb3
    injection hb1 with hb1
    injection hb1 with hb1
    subst hb1
    subst hb3
    have hkl : k < cs.length := by omega
    obtain ⟨y, hy⟩ := get_lt cs k hkl
    obtain ⟨hcy, hfy⟩ := hblk.2 k y hy
    have hys : (y ++ (⟨#[48]⟩ : ByteArray)).size ≤ 13 := by
      have := HSZ.out y (List.mem_of_getElem? hy)
      rw [ByteArray.size_append]
      show y.size + 1 ≤ 13
      omega
    have HBK := hidH hblk
    have HYS := hidH hys
    have hy12 := HSZ.out y (List.mem_of_getElem? hy)
    have HY := hidH hy
    clear hy hblk hc1 hc2 hbb hbh hys
    go_wp2_with fail
    go_region_with ((go_at_call 118; (with_reducible refine (badS_any _ HYS.out r (B + 1 + 1) _ (rdDrew R2.out) (by omega)).mono ?_); rintro e w3 ⟨z, hzs, rfl, hR3, hO3⟩; (have R3 := hidH hR3); (have O3 := hidH (O2.out.trans (((ontoDrew r w2).trans hO3).toB (by omega)))); (have L1 := hidH (K1.out.onto ((ontoDrew r w2).trans hO3) (by omega))); (have L2 := hidH (K2.out.onto ((ontoDrew r w2).trans hO3) (by omega))); (have HB3 := hidH (HBK.out.apart (Apart.of_onto (lo := r) (hi := r + 1) ((ontoDrew r w2).trans hO3) (Nat.le_refl _) (Nat.lt_succ_self _)) (.inr (by omega)))); (have cA3 := L1.out.cell); (have ⟨hq1, hq2⟩ := HB3.out.2 k y HY.out); clear hR3 hO3))
    all_goals
      have HB4 := hidH (HB3.out.set k z)
      have M1 := hidH (L1.out.setCell ⟨g, k, none⟩ (.string z) (by show w.heap.size ≠ g; omega))
      have M2 := hidH (L2.out.setCell ⟨g, k, none⟩ (.string z) (by show w.heap.size + 1 ≠ g; omega))
      have R4 := hidH (R3.out.set (show r < g by omega) k (.string z))
      have O4 := hidH (O3.out.trans (OntoB.of_below ((Below.refl base w3).setCell (p := ⟨g, k, none⟩) hgb (.string z))))
      have hs4 : w.heap.size + 2 ≤ (w3.setCell ⟨g, k, none⟩ (.string z)).heap.size := by have := M2.out.lt; omega
      clear hq1 hq2 hcy hfy cA3 cA fA L1 L2 HB3 R3 O3
      generalize w3.setCell ⟨g, k, none⟩ (.string z) = w4 at *
      have SZ := hidH (eng_size (.slice (some ⟨g, 0, none⟩) cs.length cap))
      have SO := hidH (slice_one (some ⟨g, 0, none⟩) cs.length cap)
      go_wp2_with (first | (refine wpList_load_row rfl 26 _ rfl w.heap.size rfl 26 _ (0, 0) _ M1.out Tryd.underlying26 rfl SZ.out ?_) | (refine wpList_store_row rfl 26 _ _ rfl (w.heap.size + 1) #[.slice (some ⟨g, 0, none⟩) cs.length cap] rfl rfl 26 _ M2.out SZ.out rfl SO.out ?_))
      refine bodyPost_ret (results_eng Tryd.results90 _ _ (w.heap.size + 1) _ rfl (M2.out.setRow _)) rfl ?_
      refine ⟨_, cs.set k z, rfl, ?_, by rw [List.length_set]; omega, ?_, ?_, ?_⟩
      · exact ((HB4.out.row (lo := base) (hi := w.heap.size + 1) (cap := cap) hgb (by omega) (by rw [List.length_set]; exact hgc) (by unfold maxLen; omega) (by rw [List.length_set])).apart (Apart.of_onto (lo := w.heap.size + 1) (hi := w.heap.size + 2) (onto_setRow (w.heap.size + 1) w4 _) (by omega) (by omega)) (.inl (Nat.le_refl _))).mono (Nat.le_refl _) (by simp; omega)
      · intro c hc
        rcases List.mem_or_eq_of_mem_set hc with hc | rfl
        · have := HSZ.out c hc; omega
        · omega
      · exact (R4.out.low (bRow' (r + 1) w4 (w.heap.size + 1) (by omega) _)).more (by omega)
      · exact O4.out.trans (OntoB.of_below (bRow' base w4 (w.heap.size + 1) (by omega) _))
  · have c0 : (t == 0) = false := beq_eq_false_iff_ne.2 e0
    by_cases e1 : t = 1
    · subst e1
      clear e0
      have M1 := hidH (K1.out.put (.slice (some ⟨g, 0, none⟩) 0 cap))
      have M2 := hidH (K2.out.setCell ⟨w.heap.size, 0, none⟩ (.slice (some ⟨g, 0, none⟩) 0 cap) (by show w.heap.size + 1 ≠ w.heap.size; omega))
      have R4 := hidH (R2.out.set (show r < w.heap.size by omega) 0 (.slice (some ⟨g, 0, none⟩) 0 cap))
      have O4 := hidH (O2.out.trans (OntoB.of_below ((Below.refl base w2).setCell (p := ⟨w.heap.size, 0, none⟩) hbs (.slice (some ⟨g, 0, none⟩) 0 cap))))
      have SZ := hidH (eng_size (.slice (some ⟨g, 0, none⟩) 0 cap))
      have SO := hidH (slice_one (some ⟨g, 0, none⟩) 0 cap)
      go_wp2_with (first | (refine wpList_load_row rfl 26 _ rfl w.heap.size rfl 26 _ (0, 0) _ M1.out Tryd.underlying26 rfl SZ.out ?_) | (refine wpList_store_row rfl 26 _ _ rfl (w.heap.size + 1) #[.slice (some ⟨g, 0, none⟩) 0 cap] rfl rfl 26 _ M2.out SZ.out rfl SO.out ?_))
      refine bodyPost_ret (results_eng Tryd.results90 _ _ (w.heap.size + 1) _ rfl (M2.out.setRow _)) rfl ?_
      refine ⟨_, [], rfl, RowS.nil _ _ _ _ _ (by unfold maxLen; omega) (fun h => by cases h), by simp, by simp, ?_, ?_⟩
      · exact (R4.out.low (bRow' (r + 1) _ (w.heap.size + 1) (by omega) _)).more (by omega)
      · exact O4.out.trans (OntoB.of_below (bRow' base _ (w.heap.size + 1) (by omega) _))
    · have c1 : (t == 1) = false := beq_eq_false_iff_ne.2 e1
      by_cases e2 : t = 2
      · subst e2
        clear e0 e1
        go_wp2_with fail
        go_loopw [38] (fun _ wr => ∃ (g2 cap2 : Nat) (ys : List ByteArray), 1 ≤ ys.length ∧ ys.length ≤ 8 ∧ EngAt wr w.heap.size (.slice (some ⟨g2, 0, none⟩) ys.length cap2) ∧ EngAt wr (w.heap.size + 1) (.slice none 0 0) ∧ wr.ownsRow base 9 1 (.slice (some ⟨g2, 0, none⟩) ys.length cap2) ys.length (intsS ys) ∧ (∀ y ∈ ys, y.size ≤ 12) ∧ Rd wr r (B + 1 + 1) ∧ OntoB r base w wr ∧ g2 ≠ w.heap.size ∧ g2 ≠ w.heap.size + 1) (fun _ wr => 8 - lenOf ((wr.cell? ⟨w.heap.size, 0, none⟩).getD undef))
        case atStart => exact ⟨g, cap, cs, h1, by omega, K1.out, K2.out, W2.out, HSZ.out, R2.out, O2.out, by omega, by omega⟩
        case round =>
          obtain ⟨g2, cap2, ys, hy1, hy8, hE, hE2, hown, hys, hrd, ho, hg1, hg2⟩ := hrel
          have Q1 := hidH hE
          have Q2 := hidH hE2
          have WQ := hidH hown
          have HYS := hidH hys
          have RQ := hidH hrd
          have OQ := hidH ho
          have cQ := hE.cell
          have hbz : w.heap.size + 2 ≤ wr.heap.size := by have := hE2.lt; omega
          have HME := hidH (show lenOf ((wr.cell? ⟨w.heap.size, 0, none⟩).getD undef) = ys.length by rw [hE.cell]; rfl)
          clear hE hE2 hown hys hrd ho
          by_cases hlt : ys.length < 8
          · obtain ⟨b, cap', hbe, hc1, hc2, hbb, hbh, hblk⟩ := (row_of_ownsS WQ.out).1.blk (by omega)
            injection hbe with hb1 hb2 hb3
            injection hb1 with hb1
            injection hb1 with hb1
            subst hb1
            subst hb3
            obtain ⟨y0, hy0⟩ := get_lt ys 0 (by omega)
            have hc0 := (hblk.2 0 y0 hy0).1
            have hyp0 : (0 : Int) < (ys.length : Int) := by omega
            have hyp1 : 0 < ys.length := by omega
            have HY0 := hidH hy0
            have ag : (Value.slice (some ⟨g2, 0, none⟩) ys.length cap2).ownBlock = some g2 := rfl
            have cQa := (Q1.out.alloc (.cells #[.string y0] 9)).cell
            clear hblk hy0 hc1 hc2
            go_wp2_with fail
            go_region_law ((refine step_append_lies _ (by rfl) _ _ _ (by rfl) base 9 i0 _ 1 16 Tryd.underlying22 hi0 hz0 hz1 hz2 rfl (by omega) (.slice (some ⟨g2, 0, none⟩) ys.length cap2) ys.length (intsS ys) (by rfl) ((WQ.out.alloc _).drew) ⟨wr.heap.size, 0, none⟩ 1 1 [.string y0] (by rfl) (by rfl) (World.news_of_block (cs := #[.string y0]) (t := 9) (fr := (0, 0)) (heap_alloc_new wr _)) (by simp [Value.oneCell']) (by omega) (by unfold maxLen; omega) (by omega) (by simp; omega) (wr.heap.size + 1) (by simp) ?_; intro gg cap5 w5 hown1 hgrow hat hlt1; have E5 := hidH (engGrown (Q1.out.alloc _) hgrow (by rw [ag]; intro e; injection e with e; omega)); have E6 := hidH (engGrown (Q2.out.alloc _) hgrow (by rw [ag]; intro e; injection e with e; omega)); have c5 := E5.out.cell; have f5 := E5.out.free 0))
            all_goals
              have HR5 := hidH hown1
              have HG5 := hidH hgrow
              have hgg : gg = g2 ∨ gg = wr.heap.size + 1 := by
                rcases hat with h | h
                · left; injection h with h; exact h.symm
                · right; exact h
              have HBL := hidH (OntoB.of_below (r := r) (((Below.refl base wr).alloc (by omega) (.cells #[.string y0] 9)).drew.grown hgrow (by simp; omega) fun g hg => by rw [ag] at hg; injection hg with hg; omega))
              have HRL := hidH (RQ.out.low (((Below.refl (r + 1) wr).alloc (by omega) (.cells #[.string y0] 9)).drew.grown hgrow (by simp; omega) fun g hg => by rw [ag] at hg; injection hg with hg; omega))
              clear hown1 hgrow hat hc0 cQ cQa
              go_wp2
              go_roundw
              case rel =>
                refine ⟨gg, cap5, ys ++ [y0], by rw [List.length_append]; simp, by rw [List.length_append]; simp; omega, ?_, E6.out.setCell _ _ (by show w.heap.size + 1 ≠ w.heap.size; omega), ?_, ?_, HRL.out.set (by omega) _ _, (OQ.out.trans HBL.out).trans (OntoB.of_below ((Below.refl base w5).setCell (p := ⟨w.heap.size, 0, none⟩) hbs _)), by omega, by omega⟩
                · rw [List.length_append]; exact E5.out.put _
                · rw [List.length_append, ints_appendS]
                  exact owns_set HR5.out w.heap.size 0 _ (by intro e; have e2 : gg = w.heap.size := Option.some.inj e; omega)
                · intro c hc
                  rcases List.mem_append.1 hc with hc | hc
                  · exact HYS.out c hc
                  · rw [List.mem_singleton.1 hc]; exact HYS.out y0 (List.mem_of_getElem? HY0.out)
              case measure =>
                rw [HME.out]
                have c6 := (E5.out.put (.slice (some ⟨gg, 0, none⟩) (ys.length + 1) cap5)).cell
                rw [c6]
                show 8 - (ys.length + 1) < 8 - ys.length
                omega
          · have h8 : ys.length = 8 := by omega
            have H8 := hidH h8
            rw [h8] at Q1 WQ
            clear h8 hy8 cQ HME
            have cQ := Q1.out.cell
            have SZ := hidH (eng_size (.slice (some ⟨g2, 0, none⟩) 8 cap2))
            have SO := hidH (slice_one (some ⟨g2, 0, none⟩) 8 cap2)
            go_wp2_with (first | (refine wpList_load_row rfl 26 _ rfl w.heap.size rfl 26 _ (0, 0) _ Q1.out Tryd.underlying26 rfl SZ.out ?_) | (refine wpList_store_row rfl 26 _ _ rfl (w.heap.size + 1) #[.slice (some ⟨g2, 0, none⟩) 8 cap2] rfl rfl 26 _ Q2.out SZ.out rfl SO.out ?_))
            refine bodyPost_ret (results_eng Tryd.results90 _ _ (w.heap.size + 1) _ rfl (Q2.out.setRow _)) rfl ?_
            refine ⟨_, ys, rfl, ?_, by rw [H8.out]; omega, fun c hc => by have := HYS.out c hc; omega, ?_, ?_⟩
            · have hrow := (row_of_ownsS WQ.out).1
              obtain ⟨b, cap', hbe, hc1, hc2, hbb, hbh, hblk⟩ := hrow.blk (by rw [H8.out]; omega)
              injection hbe with hb1 hb2 hb3
              injection hb1 with hb1
              injection hb1 with hb1
              subst hb1
              subst hb3
              have hh := (WQ.out.lt g2 rfl).1
              have hk := hblk.apart (Apart.of_onto (lo := w.heap.size + 1) (hi := w.heap.size + 2) (onto_setRow (w.heap.size + 1) wr #[.slice (some ⟨g2, 0, none⟩) 8 cap2]) (by omega) (by omega)) (by omega)
              exact hk.row hh hk.1 hc1 hc2 H8.out.symm
            · exact (RQ.out.low (bRow' (r + 1) _ (w.heap.size + 1) (by omega) _)).more (by omega)
            · exact OQ.out.trans (OntoB.of_below (bRow' base _ (w.heap.size + 1) (by omega) _))
      · have c2 : (t == 2) = false := beq_eq_false_iff_ne.2 e2
        clear e0 e1 e2
        have SZ := hidH (eng_size (.slice (some ⟨g, 0, none⟩) cs.length cap))
        have SO := hidH (slice_one (some ⟨g, 0, none⟩) cs.length cap)
        go_wp2_with (first | (refine wpList_load_row rfl 26 _ rfl w.heap.size rfl 26 _ (0, 0) _ K1.out Tryd.underlying26 rfl SZ.out ?_) | (refine wpList_store_row rfl 26 _ _ rfl (w.heap.size + 1) #[.slice (some ⟨g, 0, none⟩) cs.length cap] rfl rfl 26 _ K2.out SZ.out rfl SO.out ?_))
        refine bodyPost_ret (results_eng Tryd.results90 _ _ (w.heap.size + 1) _ rfl (K2.out.setRow _)) rfl ?_
        refine ⟨_, cs, rfl, ?_, by omega, fun c hc => by have := HSZ.out c hc; omega, ?_, ?_⟩
        · have hrow := (row_of_ownsS W2.out).1
          obtain ⟨b, cap', hbe, hc1, hc2, hbb, hbh, hblk⟩ := hrow.blk (by omega)
          injection hbe with hb1 hb2 hb3
          injection hb1 with hb1
          injection hb1 with hb1
          subst hb1
          exact ((hblk.row (lo := base) (hi := w.heap.size + 1) (cap := cap) hgb (by omega) hgc (by unfold maxLen; omega) rfl).apart (Apart.of_onto (lo := w.heap.size + 1) (hi := w.heap.size + 2) (onto_setRow (w.heap.size + 1) w2 _) (by omega) (by omega)) (.inl (Nat.le_refl _))).mono (Nat.le_refl _) (by simp; omega)
        · exact (R2.out.low (bRow' (r + 1) _ (w.heap.size + 1) (by omega) _)).more (by omega)
        · exact O2.out.trans (OntoB.of_below (bRow' base _ (w.heap.size + 1) (by omega) _))
end Go.Proofs.YtffmhcahiabicaaDoor
