/-
  The drawn arguments of functions on engines. Condition: at most 1048576 bytes, which can be read.
  The drawn arguments of SetUp, ReadEngine and ParseEngine. Condition: at most 1048576 bytes, which can be read.
  A drawn text of an engine, which is sometimes changed at one place. Condition: at most 1048576 bytes, which can be read.
-/
import Derived.Test.YtffmhcahiabicaaDoorEngDb
import Derived.Test.YtffmhcahiabicaaDoorKitE
import Derived.Test.YtffmhcahiabicaaDoorEngH
import Derived.Test.YtffmhcahiabicaaDoorEngTm
import Derived.Test.YtffmhcahiabicaaDoorKitP
namespace Go.Proofs.YtffmhcahiabicaaDoor
set_option maxRecDepth 4000
set_option linter.unusedVariables false
open Go.RowKit
theorem eng_sizes (cs : List ByteArray) (h : engOk cs = true) : 1 ≤ cs.length ∧ cs.length ≤ 7 ∧ ∀ c ∈ cs, c.size ≤ 12 := by
  obtain ⟨h1, h7, n, _, h12, hall⟩ := engOk_parts cs h
  exact ⟨h1, h7, fun c hc => by have := (hall c hc).2; omega⟩
theorem resBoxD (w : World) : Below w.heap.size w (w.alloc (.cells #[.slice none 0 0] 26)) ∧ EngAt (w.alloc (.cells #[.slice none 0 0] 26)) w.heap.size (.slice none 0 0) ∧ (w.alloc (.cells #[.slice none 0 0] 26)).heap.size = w.heap.size + 1 :=
  ⟨belowN' w _, EngAt.fresh w _, by simp⟩
theorem owns_down {w : World} {base b2 e n : Nat} {v : Value} {xs : List Value} (h : w.ownsRow base e 1 v n xs) (hb : b2 ≤ base) : w.ownsRow b2 e 1 v n xs := by
  obtain ⟨hl, h0 | ⟨g, cap, cur, hv, hg, r⟩⟩ := h
  · exact ⟨hl, .inl h0⟩
  · exact ⟨hl, .inr ⟨g, cap, cur, hv, by omega, r⟩⟩
theorem engAt_ontoB {w w' : World} {b r base : Nat} {v : Value} (h : EngAt w b v) (ho : OntoB r base w w') (hb : b < base) (hr : b ≠ r) : EngAt w' b v := by
  unfold EngAt at *
  rw [ho.block b hb hr]
  exact h
theorem came_b {w w' : World} {a : Option Addr} {len cap : Nat} (h : Came w a len cap) (hb : Below w.heap.size w w') : Came w' a len cap := by
  obtain ⟨h1, h2, h3, h4⟩ := h
  refine ⟨h1, h2, fun j hj => ?_, h4⟩
  obtain ⟨b, off, x, e, hl, x0, x1, hc⟩ := h3 j hj
  exact ⟨b, off, x, e, Nat.lt_of_lt_of_le hl hb.size, x0, x1, by rw [hb.cell (p := ⟨b, off + j, none⟩) hl]; exact hc⟩
/-- A drawn engine that is sometimes not valid. -/
def OpenEng (r B : Nat) (w : World) (e : Ending) (w' : World) : Prop := ∃ (v : Value) (cs : List ByteArray), e = .returned (.agg #[v]) ∧ RowS w' w.heap.size w'.heap.size v cs ∧ cs.length ≤ 8 ∧ (∀ c ∈ cs, c.size ≤ 100) ∧ Rd w' r (B + 310) ∧ Onto r w w'
theorem openE_any (r B : Nat) (w : World) (h : Rd w r B) (hB : B ≤ 700000) : Calls Tryd.prog 50 #[.pointer (some ⟨r, 0, none⟩)] w (OpenEng r B w) := by
  have hr := h.lt
  have ⟨t1, t2, t3⟩ := resBoxD w
  have BB := hidH t1
  have E1 := hidH t2
  have S1 := hidH t3
  have HR := hidH (h.onto t1)
  clear h t1 t2 t3
  go_enter Tryd.func50, Tryd.ntmps50
  go_wp2_with fail
  refine (someE_any r B _ HR.out (by omega)).mono ?_
  rintro e w1 ⟨v, cs, rfl, hown, hok, hR1, hO1⟩
  obtain ⟨h1, h7, h12⟩ := eng_sizes cs hok
  have H12 := hidH h12
  have R1 := hidH hR1
  have O1 := hidH ((Onto.of_below (r := r) BB.out).trans hO1)
  have W1 := hidH hown
  have K1 := hidH (E1.out.onto hO1 (by omega))
  have hs1 := hO1.size
  rw [S1.out] at hs1 W1
  have hs2 : w.heap.size + 3 ≤ w1.heap.size := by
    obtain ⟨g, cap, e, _, _, hg, hgw⟩ := owns_form W1.out h1
    omega
  clear hok h12 hR1 hO1 hown
  go_wp2_with fail
  refine (badE_any r (B + 300) (w.heap.size + 1) v cs w1 R1.out (by omega) (owns_down W1.out (by omega)) h1 h7 H12.out (by omega) (by omega)).mono ?_
  rintro e w2 ⟨v2, ys, rfl, hrow, h8, hys, hR2, hO2⟩
  have R2 := hidH hR2
  have RW := hidH hrow
  have HYS := hidH hys
  have O2 := hidH hO2
  have K2 := hidH (engAt_ontoB K1.out hO2 (by omega) (by omega))
  obtain ⟨ao, co, rfl⟩ := hrow.some
  have hs3 := hO2.size
  clear hR2 hrow hO2 hys
  have SZ := hidH (eng_size (.slice ao ys.length co))
  have SO := hidH (slice_one ao ys.length co)
  go_wp2_with (refine wpList_store_row rfl 26 _ _ rfl w.heap.size #[.slice ao ys.length co] rfl rfl 26 _ K2.out SZ.out rfl SO.out ?_)
  refine bodyPost_ret (results_eng Tryd.results50 _ _ w.heap.size _ rfl (K2.out.setRow _)) rfl ?_
  refine ⟨_, ys, rfl, ?_, h8, HYS.out, ?_, ?_⟩
  · exact (RW.out.apart (Apart.of_onto (lo := w.heap.size) (hi := w.heap.size + 1) (onto_setRow w.heap.size _ _) (Nat.le_refl _) (Nat.lt_succ_self _)) (.inr (Nat.le_refl _))).mono (by omega) (by simp)
  · exact (R2.out.low (bRow' (r + 1) w2 w.heap.size (by omega) _)).more (by omega)
  · exact (((O1.out.toB (Nat.le_refl _)).trans (O2.out.down (by omega))).trans (OntoB.of_below (bRow' w.heap.size w2 w.heap.size (Nat.le_refl _) _))).onto
/-- A drawn engine. -/
def DrawE (w : World) (e : Ending) (w' : World) : Prop := ∃ (v : Value) (cs : List ByteArray), e = .returned (.agg #[v]) ∧ RowS w' w.heap.size w'.heap.size v cs ∧ cs.length ≤ 8 ∧ (∀ c ∈ cs, c.size ≤ 100) ∧ Below w.heap.size w w'
/-- A drawn engine and a number. -/
def DrawEn (w : World) (e : Ending) (w' : World) : Prop := ∃ (v : Value) (cs : List ByteArray) (n : Int), e = .returned (.tuple #[.agg #[v], .int .i64 n]) ∧ RowS w' w.heap.size w'.heap.size v cs ∧ cs.length ≤ 8 ∧ (∀ c ∈ cs, c.size ≤ 100) ∧ Below w.heap.size w w'
theorem drawFormatEngine (a : Option Addr) (len cap : Nat) (w : World) (hc : Came w a len cap) (hl : len ≤ 1048576) : Calls Tryd.prog 21 #[.slice a len cap] w (DrawE w) := by
  have ⟨t1, t2, t3⟩ := resBoxD w
  have BB := hidH t1
  have E1 := hidH t2
  have S1 := hidH t3
  have HO := hidH (opened_any a len cap _ (came_b hc t1) hl)
  clear hc t1 t2 t3
  go_enter Tryd.func21, Tryd.ntmps21
  go_wp2_with fail
  refine HO.out.mono ?_
  rintro e w1 ⟨rfl, hR, hB⟩
  rw [S1.out] at hR
  have R1 := hidH hR
  have B1 := hidH (bThen BB.out hB)
  have K1 := hidH (E1.out.below hB)
  have hr1 := hR.lt
  rw [S1.out]
  clear hR hB HO
  go_wp2_with fail
  refine (openE_any (w.heap.size + 1) 0 w1 R1.out (by omega)).mono ?_
  rintro e w2 ⟨v, cs, rfl, hrow, h8, hsz, hR2, hO2⟩
  have RW := hidH hrow
  have HSZ := hidH hsz
  have B2 := hidH (B1.out.trans (hO2.below (Nat.le_succ _) (by omega)))
  have K2 := hidH (K1.out.onto hO2 (by omega))
  have hs2 := hO2.size
  obtain ⟨ao, co, rfl⟩ := hrow.some
  clear hR2 hrow hsz hO2
  have SZ := hidH (eng_size (.slice ao cs.length co))
  have SO := hidH (slice_one ao cs.length co)
  go_wp2_with (refine wpList_store_row rfl 26 _ _ rfl w.heap.size #[.slice ao cs.length co] rfl rfl 26 _ K2.out SZ.out rfl SO.out ?_)
  refine bodyPost_ret (results_eng Tryd.results21 _ _ w.heap.size _ rfl (K2.out.setRow _)) rfl ?_
  exact ⟨_, cs, rfl, (RW.out.apart (Apart.of_onto (lo := w.heap.size) (hi := w.heap.size + 1) (onto_setRow w.heap.size _ _) (Nat.le_refl _) (Nat.lt_succ_self _)) (.inr (by omega))).mono (by omega) (by simp), h8, HSZ.out, bRow B2.out (Nat.le_refl _) _⟩
theorem drawWidenEngine (a : Option Addr) (len cap : Nat) (w : World) (hc : Came w a len cap) (hl : len ≤ 1048576) : Calls Tryd.prog 35 #[.slice a len cap] w (DrawEn w) := by
  have ⟨t1, t2, t3⟩ := resBoxD w
  have BB := hidH t1
  have E1 := hidH t2
  have S1 := hidH t3
  have HO := hidH (opened_any a len cap _ (came_b hc t1) hl)
  clear hc t1 t2 t3
  go_enter Tryd.func35, Tryd.ntmps35
  go_wp2_with fail
  refine HO.out.mono ?_
  rintro e w1 ⟨rfl, hR, hB⟩
  rw [S1.out] at hR
  have R1 := hidH hR
  have B1 := hidH (bThen BB.out hB)
  have K1 := hidH (E1.out.below hB)
  have hr1 := hR.lt
  rw [S1.out]
  clear hR hB HO
  go_wp2_with fail
  refine (openE_any (w.heap.size + 1) 0 w1 R1.out (by omega)).mono ?_
  rintro e w2 ⟨v, cs, rfl, hrow, h8, hsz, hR2, hO2⟩
  have R2 := hidH hR2
  have RW := hidH hrow
  have HSZ := hidH hsz
  have B2 := hidH (B1.out.trans (hO2.below (Nat.le_succ _) (by omega)))
  have K2 := hidH (K1.out.onto hO2 (by omega))
  have hs2 := hO2.size
  obtain ⟨ao, co, rfl⟩ := hrow.some
  clear hR2 hrow hsz hO2
  have L1 := hidH (EngAt.fresh w2 (.slice ao cs.length co))
  have K3 := hidH (K2.out.alloc (.cells #[.slice ao cs.length co] 26))
  have R3 := hidH (R2.out.onto (belowN' w2 (.slice ao cs.length co)))
  have RW3 := hidH (RW.out.below (belowN' w2 (.slice ao cs.length co)))
  have B3 := hidH (bMore B2.out (.cells #[.slice ao cs.length co] 26))
  have S3 := hidH (show (w2.alloc (.cells #[.slice ao cs.length co] 26)).heap.size = w2.heap.size + 1 by simp)
  have cL := L1.out.cell
  have cK := K3.out.cell
  have fK := K3.out.free 0
  go_wp2_with fail
  go_region_with ((go_at_call 60; (with_reducible refine (wide_any (w.heap.size + 1) (0 + 310) _ (rdDrew R3.out) (by omega)).mono ?_); rintro e w4 ⟨z, rfl, hR4, hO4⟩; (have O4 := hidH ((ontoDrew (w.heap.size + 1) (w2.alloc (.cells #[.slice ao cs.length co] 26))).trans hO4)); (have K4 := hidH (K3.out.onto O4.out (by omega))); (have L4 := hidH (L1.out.onto O4.out (by omega))); (have cL4 := L4.out.cell); (have cK4 := K4.out.cell); (have fK4 := K4.out.free 0); clear hR4 hO4))
  all_goals
    have K5 := hidH (K4.out.put (.slice ao cs.length co))
    have hs4 := O4.out.size
    rw [S3.out] at hs4
    have RW4 := hidH (RW3.out.apart (Apart.of_onto (lo := w.heap.size + 1) (hi := w.heap.size + 2) O4.out (Nat.le_refl _) (Nat.lt_succ_self _)) (.inr (by omega)))
    have RW5 := hidH (RW4.out.apart (Apart.of_onto (lo := w.heap.size) (hi := w.heap.size + 1) (Onto.setCell w.heap.size 0 _ (.slice ao cs.length co)) (Nat.le_refl _) (Nat.lt_succ_self _)) (.inr (by omega)))
    have B5 := hidH ((B3.out.trans (O4.out.below (Nat.le_succ _) (by rw [S3.out]; omega))).setCell (p := ⟨w.heap.size, 0, none⟩) (Nat.le_refl _) (.slice ao cs.length co))
    clear cL4 cK4 fK4 cL cK fK
    go_wp2
    refine bodyPost_ret (results_engB Tryd.results35 _ _ w.heap.size _ (.int .i64 z) rfl rfl K5.out) rfl ?_
    exact ⟨_, cs, z, rfl, RW5.out.mono (by omega) (by simp; omega), h8, HSZ.out, B5.out⟩
end Go.Proofs.YtffmhcahiabicaaDoor
namespace Go.Proofs.YtffmhcahiabicaaDoor
set_option maxRecDepth 4000
set_option linter.unusedVariables false
open Go.RowKit
theorem drawSetUp (a : Option Addr) (len cap : Nat) (w : World) (hc : Came w a len cap) (hl : len ≤ 1048576) : Calls Tryd.prog 25 #[.slice a len cap] w (Draw1nn w) := by
  have HO := hidH (opened_any a len cap w hc hl)
  clear hc
  go_enter Tryd.func25, Tryd.ntmps25
  go_wp2_with fail
  refine HO.out.mono ?_
  rintro e w1 ⟨rfl, hR, hB⟩
  have R1 := hidH hR
  have B1 := hidH hB
  have s1 := hB.size
  have hr1 := hR.lt
  clear hR hB HO
  go_wp2_with fail
  refine (open2_any w.heap.size 0 w1 R1.out (by omega)).mono ?_
  rintro e w2 ⟨v, zs, rfl, hrow, h8, hR, hO⟩
  have R2 := hidH hR
  have B2 := hidH (B1.out.trans (hO.below (Nat.le_refl _) s1))
  have s2 := hO.size
  have RW := hidH hrow
  have hr2 := hR.lt
  clear hR hrow hO
  go_wp2_with fail
  refine (number2_any w.heap.size _ w2 R2.out (by omega)).mono ?_
  rintro e w3 ⟨n, rfl, hR, hO⟩
  have R3 := hidH hR
  have B3 := hidH (B2.out.trans (hO.below (Nat.le_refl _) (by omega)))
  have s3 := hO.size
  have RW3 := hidH (row_onto RW.out hO (by omega))
  clear hR hO
  go_wp2_with fail
  refine (pick_any 3 w.heap.size _ w3 R3.out (by omega)).mono ?_
  rintro e w4 ⟨x, rfl, x0, x1, hR, hO⟩
  have R4 := hidH hR
  have B4 := hidH (B3.out.trans (hO.below (Nat.le_refl _) (by omega)))
  have s4 := hO.size
  have RW4 := hidH (row_onto RW3.out hO (by omega))
  clear hR hO x1
  by_cases hx : 0 < x
  · go_wp2
    go_ret3
    exact ⟨v, zs, n, 8, rfl, RW4.out.mono (by omega) (by omega), h8, B4.out⟩
  · have x00 : decide ((0 : Int) < x) = false := decide_eq_false hx
    clear hx
    go_wp2_with fail
    refine (wide_any w.heap.size _ w4 R4.out (by omega)).mono ?_
    rintro e w5 ⟨z, rfl, hR, hO⟩
    have B5 := hidH (B4.out.trans (hO.below (Nat.le_refl _) (by omega)))
    have s5 := hO.size
    have RW5 := hidH (row_onto RW4.out hO (by omega))
    clear hR hO
    go_wp2
    go_ret3
    exact ⟨v, zs, n, z, rfl, RW5.out.mono (by omega) (by omega), h8, B5.out⟩
theorem colR_size (n wi : Int) : (colR n wi).1.size ≤ 12 := by
  unfold colR
  split
  · rename_i h
    rw [Bool.and_eq_true, decide_eq_true_eq] at h
    show (showB n wi.toNat).toArray.size ≤ 12
    simp [showB_length]; omega
  · exact Nat.zero_le _
theorem setL_small (zs : List Int) (n wi : Int) : (setL zs n wi).length ≤ 8 ∧ ∀ c ∈ setL zs n wi, c.size ≤ 100 := by
  cases h : shiftB zs n
  · rw [setL_no zs n wi h]; simp
  · rw [setL_yes zs n wi h]
    have hp := shift_pos zs n h
    refine ⟨Nat.le_trans (listA_len _ _) (by omega), fun c hc => ?_⟩
    unfold listA at hc
    split at hc
    · unfold listL at hc
      obtain ⟨i, _, rfl⟩ := List.mem_map.1 hc
      have := colR_size ((shiftA zs n).getD i 0) wi
      show (colR ((shiftA zs n).getD i 0) wi).1.size ≤ 100
      omega
    · simp at hc
theorem row_of_ints {w : World} {base : Nat} {v : Value} {zs : List Int} (h : w.ownsRow base 3 1 v zs.length (ints zs)) : Lies w base w.heap.size v zs := (row_of_owns h).1.lies
set_option maxHeartbeats 2000000 in
theorem drawReadEngine (a : Option Addr) (len cap : Nat) (w : World) (hc : Came w a len cap) (hl : len ≤ 1048576) : Calls Tryd.prog 33 #[.slice a len cap] w (DrawE w) := by
  have ⟨t1, t2, t3⟩ := resBoxD w
  have BB := hidH t1
  have E1 := hidH t2
  have S1 := hidH t3
  have HO := hidH (opened_any a len cap _ (came_b hc t1) hl)
  clear hc t1 t2 t3
  go_enter Tryd.func33, Tryd.ntmps33
  go_wp2_with fail
  refine HO.out.mono ?_
  rintro e w1 ⟨rfl, hR, hB⟩
  rw [S1.out] at hR
  have R1 := hidH hR
  have B1 := hidH (bThen BB.out hB)
  have K1 := hidH (E1.out.below hB)
  have hr1 := hR.lt
  rw [S1.out]
  clear hR hB HO
  go_wp2_with fail
  refine (openE_any (w.heap.size + 1) 0 w1 R1.out (by omega)).mono ?_
  rintro e w2 ⟨v, cs, rfl, hrow, h8, hsz, hR2, hO2⟩
  have R2 := hidH hR2
  have RW := hidH hrow
  have HSZ := hidH hsz
  have B2 := hidH (B1.out.trans (hO2.below (Nat.le_succ _) (by omega)))
  have K2 := hidH (K1.out.onto hO2 (by omega))
  have hs2 := hO2.size
  obtain ⟨ao, co, rfl⟩ := hrow.some
  clear hR2 hrow hsz hO2
  have L1 := hidH (EngAt.fresh w2 (.slice ao cs.length co))
  have K3 := hidH (K2.out.alloc (.cells #[.slice ao cs.length co] 26))
  have R3 := hidH (R2.out.onto (belowN' w2 (.slice ao cs.length co)))
  have RW3 := hidH (RW.out.below (belowN' w2 (.slice ao cs.length co)))
  have B3 := hidH (bMore B2.out (.cells #[.slice ao cs.length co] 26))
  have S3 := hidH (show (w2.alloc (.cells #[.slice ao cs.length co] 26)).heap.size = w2.heap.size + 1 by simp)
  go_wp2_with fail
  refine (pick_any 2 (w.heap.size + 1) _ _ R3.out (by omega)).mono ?_
  rintro e w4 ⟨x, rfl, x0, x1, hR, hO⟩
  have R4 := hidH hR
  have B4 := hidH (B3.out.trans (hO.below (Nat.le_succ _) (by rw [S3.out]; omega)))
  have K4 := hidH (K3.out.onto hO (by omega))
  have L4 := hidH (L1.out.onto hO (by omega))
  have RW4 := hidH (RW3.out.apart (Apart.of_onto (lo := w.heap.size + 1) (hi := w.heap.size + 2) hO (Nat.le_refl _) (Nat.lt_succ_self _)) (.inr (by omega)))
  have hs4 := hO.size
  rw [S3.out] at hs4
  clear hR hO x1
  by_cases e0 : x = 0
  · have b0 : (x == 0) = true := beq_iff_eq.2 e0
    clear e0
    go_wp2_with fail
    refine (pSome_any (w.heap.size + 1) _ w4 R4.out (by omega)).mono ?_
    rintro e w5 ⟨pv, zs, rfl, hown, h1, h6, hR, hO⟩
    have R5 := hidH hR
    have B5 := hidH (B4.out.trans (hO.below (Nat.le_succ _) (by omega)))
    have K5 := hidH (K4.out.onto hO (by omega))
    have L5 := hidH (L4.out.onto hO (by omega))
    have RW5 := hidH (RW4.out.apart (Apart.of_onto (lo := w.heap.size + 1) (hi := w.heap.size + 2) hO (Nat.le_refl _) (Nat.lt_succ_self _)) (.inr (by omega)))
    have PW5 := hidH (row_of_ints hown)
    obtain ⟨pa, pc, hpv, _⟩ := row_of_ints hown
    subst hpv
    have hs5 := hO.size
    clear hR hO hown
    go_wp2_with fail
    refine (pick_any 20 (w.heap.size + 1) _ _ R5.out (by omega)).mono ?_
    rintro e w6 ⟨n, rfl, n0, n1, hR, hO⟩
    have R6 := hidH hR
    have B6 := hidH (B5.out.trans (hO.below (Nat.le_succ _) (by omega)))
    have K6 := hidH (K5.out.onto hO (by omega))
    have L6 := hidH (L5.out.onto hO (by omega))
    have RW6 := hidH (RW5.out.apart (Apart.of_onto (lo := w.heap.size + 1) (hi := w.heap.size + 2) hO (Nat.le_refl _) (Nat.lt_succ_self _)) (.inr (by omega)))
    have PW6 := hidH (PW5.out.apart (Apart.of_onto (lo := w.heap.size + 1) (hi := w.heap.size + 2) hO (Nat.le_refl _) (Nat.lt_succ_self _)) (.inr (by omega)))
    have hs6 := hO.size
    have n2 := n1 (by omega)
    clear hR hO n1
    go_wp2_with fail
    refine (pick_any 5 (w.heap.size + 1) _ _ R6.out (by omega)).mono ?_
    rintro e w7 ⟨m, rfl, m0, m1, hR, hO⟩
    have R7 := hidH hR
    have B7 := hidH (B6.out.trans (hO.below (Nat.le_succ _) (by omega)))
    have K7 := hidH (K6.out.onto hO (by omega))
    have L7 := hidH (L6.out.onto hO (by omega))
    have RW7 := hidH (RW6.out.apart (Apart.of_onto (lo := w.heap.size + 1) (hi := w.heap.size + 2) hO (Nat.le_refl _) (Nat.lt_succ_self _)) (.inr (by omega)))
    have PW7 := hidH (PW6.out.apart (Apart.of_onto (lo := w.heap.size + 1) (hi := w.heap.size + 2) hO (Nat.le_refl _) (Nat.lt_succ_self _)) (.inr (by omega)))
    have hs7 := hO.size
    have m2 := m1 (by omega)
    clear hR hO m1
    go_wp2_with fail
    refine (sSetUp_any _ zs _ _ w7 _ _ PW7.out).mono ?_
    rintro e w8 ⟨xv, rfl, hr, hb⟩
    have XR := hidH hr
    have B8 := hidH (B7.out.trans (hb.mono B7.out.size))
    have K8 := hidH (K7.out.below hb)
    have L8 := hidH (L7.out.below hb)
    have RW8 := hidH (RW7.out.below hb)
    have hs8 := hb.size
    have HXB := hidH (setL_small zs (n - 5) (6 + m))
    generalize setL zs (n - 5) (6 + m) = xs at *
    generalize setB zs (n - 5) (6 + m) = xb at *
    obtain ⟨ax, cx, hxv⟩ := hr.some
    subst hxv
    clear hr hb
    have X1 := hidH (EngAt.fresh w8 (.slice ax xs.length cx))
    have K9 := hidH (K8.out.alloc (.cells #[.slice ax xs.length cx] 26))
    have L9 := hidH (L8.out.alloc (.cells #[.slice ax xs.length cx] 26))
    have XR9 := hidH (XR.out.below (belowN' w8 (.slice ax xs.length cx)))
    have RW9 := hidH (RW8.out.below (belowN' w8 (.slice ax xs.length cx)))
    have B9 := hidH (bMore B8.out (.cells #[.slice ax xs.length cx] 26))
    have S9 := hidH (show (w8.alloc (.cells #[.slice ax xs.length cx] 26)).heap.size = w8.heap.size + 1 by simp)
    cases xb
    · have SZ := hidH (eng_size (.slice ao cs.length co))
      have SO := hidH (slice_one ao cs.length co)
      go_wp2_with (first | (refine wpList_load_row rfl 26 _ rfl w2.heap.size rfl 26 _ (0, 0) _ L9.out Tryd.underlying26 rfl SZ.out ?_) | (refine wpList_store_row rfl 26 _ _ rfl w.heap.size #[.slice ao cs.length co] rfl rfl 26 _ K9.out SZ.out rfl SO.out ?_))
      refine bodyPost_ret (results_eng Tryd.results33 _ _ w.heap.size _ rfl (K9.out.setRow _)) rfl ?_
      exact ⟨_, cs, rfl, (RW9.out.apart (Apart.of_onto (lo := w.heap.size) (hi := w.heap.size + 1) (onto_setRow w.heap.size _ _) (Nat.le_refl _) (Nat.lt_succ_self _)) (.inr (by omega))).mono (by omega) (by simp <;> omega), h8, HSZ.out, bRow B9.out (Nat.le_refl _) _⟩
    · have SZ := hidH (eng_size (.slice ax xs.length cx))
      have SO := hidH (slice_one ax xs.length cx)
      go_wp2_with (first | (refine wpList_load_row rfl 26 _ rfl w8.heap.size rfl 26 _ (0, 0) _ X1.out Tryd.underlying26 rfl SZ.out ?_) | (refine wpList_store_row rfl 26 _ _ rfl w.heap.size #[.slice ax xs.length cx] rfl rfl 26 _ K9.out SZ.out rfl SO.out ?_))
      refine bodyPost_ret (results_eng Tryd.results33 _ _ w.heap.size _ rfl (K9.out.setRow _)) rfl ?_
      exact ⟨_, xs, rfl, (XR9.out.apart (Apart.of_onto (lo := w.heap.size) (hi := w.heap.size + 1) (onto_setRow w.heap.size _ _) (Nat.le_refl _) (Nat.lt_succ_self _)) (.inr (by omega))).mono (by omega) (by simp <;> omega), HXB.out.1, HXB.out.2, bRow B9.out (Nat.le_refl _) _⟩
  · have b0 : (x == 0) = false := beq_eq_false_iff_ne.2 e0
    clear e0
    have SZ := hidH (eng_size (.slice ao cs.length co))
    have SO := hidH (slice_one ao cs.length co)
    go_wp2_with (first | (refine wpList_load_row rfl 26 _ rfl w2.heap.size rfl 26 _ (0, 0) _ L4.out Tryd.underlying26 rfl SZ.out ?_) | (refine wpList_store_row rfl 26 _ _ rfl w.heap.size #[.slice ao cs.length co] rfl rfl 26 _ K4.out SZ.out rfl SO.out ?_))
    refine bodyPost_ret (results_eng Tryd.results33 _ _ w.heap.size _ rfl (K4.out.setRow _)) rfl ?_
    exact ⟨_, cs, rfl, (RW4.out.apart (Apart.of_onto (lo := w.heap.size) (hi := w.heap.size + 1) (onto_setRow w.heap.size _ _) (Nat.le_refl _) (Nat.lt_succ_self _)) (.inr (by omega))).mono (by omega) (by simp <;> omega), h8, HSZ.out, bRow B4.out (Nat.le_refl _) _⟩
end Go.Proofs.YtffmhcahiabicaaDoor
namespace Go.Proofs.YtffmhcahiabicaaDoor
set_option maxRecDepth 4000
set_option linter.unusedVariables false
open Go.RowKit
/-- A drawn text. -/
def DrawTxt (w : World) (e : Ending) (w' : World) : Prop := ∃ s : ByteArray, s.size ≤ 1000 ∧ e = .returned (.string s) ∧ Below w.heap.size w w'
def putsE : List ByteArray := [⟨#[]⟩, ⟨#[48]⟩, ⟨#[32]⟩, ⟨#[45]⟩, ⟨#[120]⟩]
theorem putsE_size : ∀ z ∈ putsE, z.size ≤ 1 := by decide
theorem wrap64_smallE (m : Nat) (h : m ≤ 1000) : IntKind.i64.wrap (m : Int) = (m : Int) := IntWalk.i64_in _ (by omega)
theorem feB_small (cs : List ByteArray) (h : engOk cs = true) : (feB cs).size ≤ 91 := by
  rw [feB_yes cs h]
  have := engT_small cs h
  show (engT cs).toArray.size ≤ 91
  simpa using this
set_option maxHeartbeats 1600000 in
theorem drawParseEngine (a : Option Addr) (len cap : Nat) (w : World) (hc : Came w a len cap) (hl : len ≤ 1048576) : Calls Tryd.prog 24 #[.slice a len cap] w (DrawTxt w) := by
  have HO := hidH (opened_any a len cap w hc hl)
  clear hc
  go_enter Tryd.func24, Tryd.ntmps24
  go_wp2_with fail
  refine HO.out.mono ?_
  rintro e w1 ⟨rfl, hR, hB⟩
  have R1 := hidH hR
  have B1 := hidH hB
  have s1 := hB.size
  have hr1 := hR.lt
  clear hR hB HO
  go_wp2_with fail
  refine (someE_any w.heap.size 0 w1 R1.out (by omega)).mono ?_
  rintro e w2 ⟨v, cs, rfl, hown, hok, hR, hO⟩
  obtain ⟨h1, h7, h12⟩ := eng_sizes cs hok
  have RW := hidH (row_of_ownsS hown).1
  have R2 := hidH hR
  have O2 := hidH hO
  have s2 := hO.size
  have HF := hidH (fun W l h (hl : LiesS W l h v cs) => sFormatEngine_any v cs W l h hl (fun c hc => by have := h12 c hc; omega))
  have hpos := feB_pos cs hok
  have hsm := feB_small cs hok
  obtain ⟨va, vc, rfl⟩ := RW.out.some
  clear hown hR hO hok h12
  generalize feB cs = t at *
  go_wp2_with fail
  refine (HF.out _ _ _ RW.out.lies).mono ?_
  rintro e w3 ⟨rfl, hB⟩
  have R3 := hidH (R2.out.onto hB)
  have O3 := hidH (O2.out.trans (Onto.of_below hB))
  clear hB HF R2 O2
  go_wp2_with fail
  refine (pick_any 2 w.heap.size _ w3 R3.out (by omega)).mono ?_
  rintro e w4 ⟨x, rfl, x0, x1, hR4, hO4⟩
  have R4 := hidH hR4
  have O4 := hidH (O3.out.trans hO4)
  clear x1 hR4 hO4 R3 O3
  by_cases e0 : x = 0
  · have b0 : (x == 0) = true := beq_iff_eq.2 e0
    clear e0
    go_wp2
    go_ret
    exact ⟨t, by omega, rfl, B1.out.trans (O4.out.below (Nat.le_refl _) s1)⟩
  · have b0 : (x == 0) = false := beq_eq_false_iff_ne.2 e0
    clear e0
    go_wp2_with fail
    refine (pick_any t.size w.heap.size _ w4 R4.out (by omega)).mono ?_
    rintro e w5 ⟨k, rfl, k0, k1, hR5, hO5⟩
    have R5 := hidH hR5
    have O5 := hidH (O4.out.trans hO5)
    have k2 := k1 (by omega)
    clear k1 hR5 hO5 R4 O4
    obtain ⟨q, rfl⟩ := Int.eq_ofNat_of_zero_le k0
    go_wp2
    have HC1 := hidH (show Rd (w5.alloc (.cells (strC putsE) 9)).drew w.heap.size (0 + 300 + 1 + 1) from rdDrew (R5.out.onto ((Below.refl w5.heap.size w5).alloc (Nat.le_refl _) (.cells (strC putsE) 9))))
    have HC2 := hidH (show Strs (w5.alloc (.cells (strC putsE) 9)).drew w.heap.size ⟨w5.heap.size, 0, none⟩ putsE from strs_new _ _ _ _ R5.out.lt)
    have HC4 := hidH (show Onto w.heap.size w1 (w5.alloc (.cells (strC putsE) 9)).drew from (O5.out.trans ((Onto.refl _ w5).alloc (.cells (strC putsE) 9))).trans (ontoDrew _ _))
    have hx1 : (t.extract 0 q).size ≤ 132 := by rw [ByteArray.size_extract]; omega
    have hq : q < t.size := by omega
    clear R5 O5 k0 k2
    go_region_with (first | (go_at_call 57; refine (of_any w5.heap.size 0 putsE w.heap.size _ _ HC1.out (by omega) (by decide) (by decide) HC2.out).mono ?_; rintro e w7 ⟨z, hz, rfl, hR7, hO7⟩; (have hz5 := putsE_size z hz); (have H7 := hidH (HC4.out.trans hO7)); (have R7 := hidH hR7); clear hz hR7 hO7) | (go_at_call 56; refine (pick_any 2 w.heap.size _ _ R7.out (by omega)).mono ?_; rintro e w8 ⟨y, rfl, y0, y1, hR8, hO8⟩; (have y2 := y1 (by omega)); (have H8 := hidH (H7.out.trans hO8)); (obtain ⟨p, rfl⟩ := Int.eq_ofNat_of_zero_le y0); (obtain ⟨m, hm, hms⟩ : ∃ m : Nat, (q : Int) + (p : Int) = (m : Int) ∧ m ≤ t.size := ⟨q + p, by omega, by omega⟩); (have hwm : IntKind.i64.wrap (m : Int) = (m : Int) := wrap64_smallE m (by omega)); clear y1 hR8 hO8))
    all_goals
      go_wp2
      go_ret
      refine ⟨_, ?_, rfl, B1.out.trans (H8.out.below (Nat.le_refl _) s1)⟩
      rw [ByteArray.size_append, ByteArray.size_append, ByteArray.size_extract, ByteArray.size_extract]
      omega
end Go.Proofs.YtffmhcahiabicaaDoor
