/-
  The two steps before carries: two texts read into rows of wheels, and turned. Condition: texts of at most 2 to the power of 63, minus 1, bytes.
-/
import Derived.Test.YtffmhcahiabicaaDoorRowF
import Derived.Deep.RegionLaw
namespace Go.Proofs.YtffmhcahiabicaaDoor
set_option maxRecDepth 4000
open Go.RowKit
theorem h_colValid (s : ByteArray) (hs : s.size ≤ 9223372036854775807) (h : ok s = true) (w : World) : Calls Tryd.prog 53 #[.string s] w fun e w' => e = .returned (.bool true) ∧ Below w.heap.size w w' := h ▸ colValid_any s hs w
theorem h_colNot (s : ByteArray) (hs : s.size ≤ 9223372036854775807) (h : ok s = false) (w : World) : Calls Tryd.prog 53 #[.string s] w fun e w' => e = .returned (.bool false) ∧ Below w.heap.size w w' := h ▸ colValid_any s hs w
/-- A whole row loaded, as one step of a statement whose order is open. -/
theorem step_load_row {P : Program} {ops : Array Oper} {o : Oper} {a : Act} {w : World} {K : Act → World → Prop} {Q : Exit → Act → World → Prop} {E : Prop} (hgd : o.guard = none) (ty : TypeId) (x : Operand) (ho : o.op = .load ty x)
    (g : Nat) (hx : a.eval x = .pointer (some ⟨g, 0, none⟩)) (t : TypeId) (cs : Array Value) (fr : Nat × Nat) (d : TypeDesc) (hg : w.heap[g]? = some (.cells cs t fr))
    (hu : P.underlying ty = some d) (hd : (match d with | .struct _ | .array _ _ => true | _ => false) = true) (hi : (P.info? ty).map (·.size) = some cs.size)
    (h : K (a.put o.dst (.agg cs)) w) : if Region.wanted o (yielded ops a.tmps) = true then Oper.wp P o a w K Q else E := by
  have hw : Region.wanted o (yielded ops a.tmps) = true := by simp [Region.wanted, hgd]
  rw [if_pos hw]
  exact wp_load_row ty x ho g hx t cs fr d hg hu hd hi h
/-- A whole row stored, likewise. -/
theorem step_store_row {P : Program} {ops : Array Oper} {o : Oper} {a : Act} {w : World} {K : Act → World → Prop} {Q : Exit → Act → World → Prop} {E : Prop} (hgd : o.guard = none) (ty : TypeId) (x y : Operand) (ho : o.op = .store ty x y)
    (g : Nat) (cells : Array Value) (hx : a.eval x = .pointer (some ⟨g, 0, none⟩)) (hy : a.eval y = .agg cells)
    (t : TypeId) (old : Array Value) (hg : w.heap[g]? = some (.cells old t (0, 0))) (hi : (P.info? ty).map (·.size) = some cells.size)
    (hold : old.size = cells.size) (h1 : cells.all (·.oneCell') = true)
    (h : K (a.put o.dst undef) (w.setRow g cells)) : if Region.wanted o (yielded ops a.tmps) = true then Oper.wp P o a w K Q else E := by
  have hw : Region.wanted o (yielded ops a.tmps) = true := by simp [Region.wanted, hgd]
  rw [if_pos hw]
  exact wp_store_row ty x y ho g cells hx hy t old hg hi hold h1 h
/-- Three results, two of them rows in memory. -/
theorem results_rows {P : Program} {fn : Func} {p q r : Tmp} {ty : TypeId} (h : fn.results = #[.cell p ty, .cell q ty, .tmp r]) (tmps : Array Value) (w : World) (g1 g2 : Nat) (t : TypeId) (c1 c2 : Array Value) (fr : Nat × Nat) (d : TypeDesc) (v : Value)
    (hp : tmps.getD p undef = .pointer (some ⟨g1, 0, none⟩)) (hq : tmps.getD q undef = .pointer (some ⟨g2, 0, none⟩)) (hr : tmps.getD r undef = v) (h1 : w.heap[g1]? = some (.cells c1 t fr)) (h2 : w.heap[g2]? = some (.cells c2 t fr))
    (hu : P.underlying ty = some d) (hd : (match d with | .struct _ | .array _ _ => true | _ => false) = true) (hi1 : (P.info? ty).map (·.size) = some c1.size) (hi2 : (P.info? ty).map (·.size) = some c2.size) :
    (results fn tmps).run P w = .ok (.tuple #[.agg c1, .agg c2, v]) w := by
  have hp' : tmps[p]?.getD undef = .pointer (some ⟨g1, 0, none⟩) := by simpa using hp
  have hq' : tmps[q]?.getD undef = .pointer (some ⟨g2, 0, none⟩) := by simpa using hq
  have hr' : tmps[r]?.getD undef = v := by simpa using hr
  simp [results, h, hp', hq', hr', asAddr, run_loadVar_row w g1 t ty c1 fr d h1 hu hd hi1, run_loadVar_row w g2 t ty c2 fr d h2 hu hd hi2]
/-- Two columns of the same width. -/
def pair (a b : ByteArray) : Bool := ok a && ok b && decide (a.size = b.size)
theorem pair_iff (a b : ByteArray) : pair a b = true ↔ ok a = true ∧ ok b = true ∧ a.size = b.size := by
  unfold pair
  rw [Bool.and_eq_true, Bool.and_eq_true, decide_eq_true_eq, and_assoc]
theorem dgS_facts (s : ByteArray) (h : ok s = true) : digs (dgS s) ∧ (dgS s).length = s.size := by
  have ⟨hd, _, _⟩ := (ok_iff s).1 h
  exact ⟨dg_digs _ hd, by rw [dgS, dg_length, size_len]⟩
/-- The rows that a function returns. -/
def rows2 (n : Int) (A B : List Int) (r : Bool) : Value := .tuple #[.agg (rowC n A), .agg (rowC n B), .bool r]
/-- A new row, filled. -/
theorem RowAt.filled (w : World) (n : Int) (L : List Int) : RowAt ((w.alloc (.cells (rowC 0 (pad [])) 124)).setRow w.heap.size (rowC n L)) w.heap.size n L := RowAt.setRow (RowAt.fresh w 0 (pad [])) n L
theorem Below.filled {B : Nat} {a w : World} (h : Below B a w) (hB : B ≤ w.heap.size) (o : Obj) (g : Nat) (cs : Array Value) (hg : B ≤ g) : Below B a ((w.alloc o).setRow g cs) :=
  Below.setRow2 (h.alloc hB o) g cs hg
theorem zero_size (n : Int) (L : List Int) (h : L.length = 12) : (rowC 0 (pad [])).size = (rowC n L).size := by rw [rowC_size, rowC_size, h]; rfl
set_option maxHeartbeats 4000000 in
set_option maxRecDepth 100000 in
theorem turned_yes (a b : ByteArray) (ha : ok a = true) (hb : ok b = true) (hab : a.size = b.size) (w : World) (hsa : a.size ≤ 9223372036854775807) (hsb : b.size ≤ 9223372036854775807) :
    Calls Tryd.prog 149 #[.string a, .string b] w fun e w' => e = .returned (rows2 a.size (pad (turnD (dgS a) (dgS b))) (pad (passD (dgS a) (dgS b))) true) ∧ Below w.heap.size w w' := by
  have VA := hidH fun w => h_colValid a hsa ha w
  have VB := hidH fun w => h_colValid b hsb hb w
  have RA := hidH fun w => rowOf_any a ha w
  have RB := hidH fun w => rowOf_any b hb w
  rw [← hab] at RB
  have ⟨da, la⟩ := dgS_facts a ha
  have ⟨db, lb⟩ := dgS_facts b hb
  have ⟨_, _, l12⟩ := (ok_iff a).1 ha
  have DA := hidH da
  have DB := hidH db
  have LA := hidH la
  have LB := hidH (lb.trans hab.symm)
  have hne : ((a.size : Int) != (b.size : Int)) = false := by rw [hab]; simp
  have HAB := hidH hab
  clear ha hb da db la lb hab
  go_enter Tryd.func149, Tryd.ntmps149
  go_wp2_with fail
  refine (VA.out _).mono ?_; rintro e w1 ⟨rfl, hb1⟩
  go_wp2_with fail
  refine (VB.out _).mono ?_; rintro e w2 ⟨rfl, hb2⟩
  rw [← rowC_start] at hb1
  have zA : RowAt w2 w.heap.size 0 (pad []) := RowAt.below (RowAt.below ((RowAt.fresh w 0 (pad [])).alloc _) hb1) hb2
  have zB : RowAt w2 (w.heap.size + 1) 0 (pad []) := by
    have h := RowAt.fresh (w.alloc (.cells (rowC 0 (pad [])) 124)) 0 (pad [])
    have e : (w.alloc (.cells (rowC 0 (pad [])) 124)).heap.size = w.heap.size + 1 := by simp
    rw [e] at h
    exact RowAt.below (RowAt.below h hb1) hb2
  have bW : Below w.heap.size w w2 := (((Below.refl _ _).alloc (Nat.le_refl _) _).alloc (by simp) _).trans ((hb1.mono (by simp; omega)).trans (hb2.mono (by have := hb1.size; simp at this; omega)))
  have sz2 : w.heap.size + 2 ≤ w2.heap.size := by have := hb1.size; have := hb2.size; simp at *; omega
  have ZA := hidH zA
  have ZB := hidH zB
  have BW := hidH bW
  clear hb1 hb2 zA zB bW
  have l1 : (pad (dgS a)).length = 12 := pad_length _ (by rw [LA.out]; exact l12)
  have S1 := hidH (row_size (a.size : Int) _ l1)
  have E1 := hidH (zero_size (a.size : Int) _ l1)
  have N1 := hidH (row_one (a.size : Int) (pad (dgS a)))
  clear l1
  go_wp2_with fail
  refine (RA.out _).mono ?_; rintro e w3 ⟨rfl, hb3⟩
  have zA := RowAt.below ZA.out hb3
  have zB := RowAt.below ZB.out hb3
  have bW := BW.out.trans (hb3.mono (by omega))
  have sz3 := Nat.le_trans sz2 hb3.size
  have fr := RowAt.fresh w3 0 (pad [])
  have ZA3 := hidH zA
  have ZB3 := hidH zB
  have BW3 := hidH bW
  have FR := hidH fr
  clear hb3 zA zB bW ZA ZB BW fr sz2
  go_wp2_with (refine wpList_store_row rfl 124 _ _ rfl w3.heap.size _ rfl rfl 124 _ FR.out S1.out E1.out N1.out ?_)
  rw [← rowC_start]
  have fA := (ZA3.out.alloc (.cells (rowC 0 (pad [])) 124)).setRowOther w3.heap.size (rowC a.size (pad (dgS a))) (by omega)
  have fB := (ZB3.out.alloc (.cells (rowC 0 (pad [])) 124)).setRowOther w3.heap.size (rowC a.size (pad (dgS a))) (by omega)
  have fR := RowAt.filled w3 a.size (pad (dgS a))
  have fW := Below.filled BW3.out (by omega) (.cells (rowC 0 (pad [])) 124) w3.heap.size (rowC a.size (pad (dgS a))) (by omega)
  have fs : ((w3.alloc (.cells (rowC 0 (pad [])) 124)).setRow w3.heap.size (rowC a.size (pad (dgS a)))).heap.size = w3.heap.size + 1 := by simp
  generalize (w3.alloc (.cells (rowC 0 (pad [])) 124)).setRow w3.heap.size (rowC a.size (pad (dgS a))) = V3 at *
  clear FR ZA3 ZB3 BW3
  refine (RB.out V3).mono ?_; rintro e w4 ⟨rfl, hb4⟩
  have FA := hidH (RowAt.below fA hb4)
  have FB := hidH (RowAt.below fB hb4)
  have FR := hidH (RowAt.below fR hb4)
  have FW := hidH (fW.trans (hb4.mono (by omega)))
  have sz4 : w3.heap.size + 1 ≤ w4.heap.size := by have := hb4.size; omega
  clear fA fB fR fW fs hb4
  have HT := hidH (turn_any w3.heap.size a.size (dgS a) (dgS b) l12 LA.out LB.out DA.out DB.out w4 FR.out)
  go_wp2_with fail
  refine HT.out.mono ?_; rintro e w5 ⟨rfl, hr5, ho5⟩
  have gA := FA.out.onto ho5 (by omega)
  have gB := FB.out.onto ho5 (by omega)
  have gW : Below w.heap.size w w5 := FW.out.trans (ho5.below (by omega) (by omega))
  have sz5 : w3.heap.size + 1 ≤ w5.heap.size := Nat.le_trans sz4 ho5.size
  have fr := RowAt.fresh w5 0 (pad [])
  have GA := hidH gA
  have GB := hidH gB
  have GR := hidH hr5
  have GW := hidH gW
  have FZ := hidH fr
  clear FA FB FR FW HT gA gB gW hr5 ho5 fr sz4
  have l2 : (pad (passD (dgS a) (dgS b))).length = 12 := pad_length _ (by rw [passD_length _ _ (by rw [LA.out, LB.out]), LA.out]; exact l12)
  have l3 : (pad (turnD (dgS a) (dgS b))).length = 12 := pad_length _ (by rw [turnD_length _ _ (by rw [LA.out, LB.out]), LA.out]; exact l12)
  have S2 := hidH (row_size (a.size : Int) _ l2)
  have E2 := hidH (zero_size (a.size : Int) _ l2)
  have N2 := hidH (row_one (a.size : Int) (pad (passD (dgS a) (dgS b))))
  have L2 := hidH l2
  have L3 := hidH l3
  clear l2 l3
  go_wp2_with (refine wpList_store_row rfl 124 _ _ rfl w5.heap.size _ rfl rfl 124 _ FZ.out S2.out E2.out N2.out ?_)
  rw [← rowC_start]
  have fA := (GA.out.alloc (.cells (rowC 0 (pad [])) 124)).setRowOther w5.heap.size (rowC a.size (pad (passD (dgS a) (dgS b)))) (by omega)
  have fB := (GB.out.alloc (.cells (rowC 0 (pad [])) 124)).setRowOther w5.heap.size (rowC a.size (pad (passD (dgS a) (dgS b)))) (by omega)
  have fT := (GR.out.alloc (.cells (rowC 0 (pad [])) 124)).setRowOther w5.heap.size (rowC a.size (pad (passD (dgS a) (dgS b)))) (by omega)
  have fP := RowAt.filled w5 a.size (pad (passD (dgS a) (dgS b)))
  have fW := Below.filled GW.out (by omega) (.cells (rowC 0 (pad [])) 124) w5.heap.size (rowC a.size (pad (passD (dgS a) (dgS b)))) (by omega)
  generalize (w5.alloc (.cells (rowC 0 (pad [])) 124)).setRow w5.heap.size (rowC a.size (pad (passD (dgS a) (dgS b)))) = V at *
  clear GA GB GR GW FZ
  have S3 := hidH (row_size (a.size : Int) _ L3.out)
  have E3 := hidH (zero_size (a.size : Int) _ L3.out)
  have N3 := hidH (row_one (a.size : Int) (pad (turnD (dgS a) (dgS b))))
  have dA : RowAt V.drew w.heap.size 0 (pad []) := fA
  have dB : RowAt V.drew (w.heap.size + 1) 0 (pad []) := fB
  have dT : RowAt V.drew w3.heap.size a.size (pad (turnD (dgS a) (dgS b))) := fT
  have dP : RowAt V.drew w5.heap.size a.size (pad (passD (dgS a) (dgS b))) := fP
  have dW : Below w.heap.size w V.drew := fW.drew
  have tA := fun cs => dA.setRowOther (w.heap.size + 1) cs (by omega)
  have tB := fun cs => dB.setRowOther w.heap.size cs (by omega)
  have tT1 := fun cs => dT.setRowOther w.heap.size cs (by omega)
  have tT2 := fun cs => dT.setRowOther (w.heap.size + 1) cs (by omega)
  have tP1 := fun cs => dP.setRowOther w.heap.size cs (by omega)
  have tP2 := fun cs => dP.setRowOther (w.heap.size + 1) cs (by omega)
  have DA2 := hidH dA
  have DB2 := hidH dB
  have DT := hidH dT
  have DP := hidH dP
  have DW := hidH dW
  have TA := hidH tA
  have TB := hidH tB
  have TT1 := hidH tT1
  have TT2 := hidH tT2
  have TP1 := hidH tP1
  have TP2 := hidH tP2
  clear fA fB fT fP fW dA dB dT dP dW tA tB tT1 tT2 tP1 tP2
  have hO : Onto w.heap.size V.drew V.drew := Onto.refl _ _
  have FA : Hid (RowAt ((V.drew.setRow w.heap.size (rowC a.size (pad (turnD (dgS a) (dgS b))))).setRow (w.heap.size + 1) (rowC a.size (pad (passD (dgS a) (dgS b))))) w.heap.size a.size (pad (turnD (dgS a) (dgS b)))) := RowAt.setRowOther (RowAt.setRow DA2.out _ _) _ _ (by omega)
  have FB : Hid (RowAt ((V.drew.setRow w.heap.size (rowC a.size (pad (turnD (dgS a) (dgS b))))).setRow (w.heap.size + 1) (rowC a.size (pad (passD (dgS a) (dgS b))))) (w.heap.size + 1) a.size (pad (passD (dgS a) (dgS b)))) := RowAt.setRow (TB.out _) _ _
  have FW : Hid (Below w.heap.size w ((V.drew.setRow w.heap.size (rowC a.size (pad (turnD (dgS a) (dgS b))))).setRow (w.heap.size + 1) (rowC a.size (pad (passD (dgS a) (dgS b)))))) := Below.setRow2 (Below.setRow2 DW.out _ _ (Nat.le_refl _)) _ _ (by omega)
  clear hO
  refine wp_region_any (by kernel_rfl) ?_
  change wpAny _ _ _ _ _ _ _ (World.drew _)
  refine wpAny_ready (rs := [0, 1]) (by kernel_rfl) (by simp) ?_
  refine AllReady.cons rfl (fun K hK => ?_) ?_
  · refine step_load_row rfl 124 _ rfl w3.heap.size rfl 124 _ (0, 0) _ (DT.out) Tryd.underlying124 rfl S3.out ?_
    refine hK _ _ ?_
    clear hK K
    refine wpAny_ready (rs := [1, 2]) (by kernel_rfl) (by simp) ?_
    refine AllReady.cons rfl (fun K hK => ?_) (AllReady.cons rfl (fun K hK => ?_) AllReady.nil)
    · refine step_load_row rfl 124 _ rfl w5.heap.size rfl 124 _ (0, 0) _ (DP.out) Tryd.underlying124 rfl S2.out ?_
      refine hK _ _ ?_
      clear hK K
      refine wpAny_ready (rs := [2]) (by kernel_rfl) (by simp) ?_
      refine AllReady.cons rfl (fun K hK => ?_) AllReady.nil
      refine step_store_row rfl 124 _ _ rfl w.heap.size _ rfl rfl 124 _ (DA2.out) S3.out E3.out N3.out ?_
      refine hK _ _ ?_
      clear hK K
      refine wpAny_ready (rs := [3]) (by kernel_rfl) (by simp) ?_
      refine AllReady.cons rfl (fun K hK => ?_) AllReady.nil
      refine step_store_row rfl 124 _ _ rfl (w.heap.size + 1) _ rfl rfl 124 _ (TB.out _) S2.out E2.out N2.out ?_
      refine hK _ _ ?_
      clear hK K
      refine wpAny_ready (rs := [4]) (by kernel_rfl) (by simp) ?_
      refine AllReady.cons rfl (fun K hK => ?_) AllReady.nil
      go_simp
      refine hK _ _ ?_
      clear hK K
      refine wpAny_done (by kernel_rfl) ?_ _
      go_wp2
      refine bodyPost_ret (v := rows2 a.size (pad (turnD (dgS a) (dgS b))) (pad (passD (dgS a) (dgS b))) true) ?_ rfl ⟨rfl, FW.out⟩
      exact results_rows Tryd.results149 _ _ w.heap.size (w.heap.size + 1) 124 _ _ (0, 0) _ _ rfl rfl rfl FA.out FB.out Tryd.underlying124 rfl S3.out S2.out
    · refine step_store_row rfl 124 _ _ rfl w.heap.size _ rfl rfl 124 _ (DA2.out) S3.out E3.out N3.out ?_
      refine hK _ _ ?_
      clear hK K
      refine wpAny_ready (rs := [1]) (by kernel_rfl) (by simp) ?_
      refine AllReady.cons rfl (fun K hK => ?_) AllReady.nil
      refine step_load_row rfl 124 _ rfl w5.heap.size rfl 124 _ (0, 0) _ (TP1.out _) Tryd.underlying124 rfl S2.out ?_
      refine hK _ _ ?_
      clear hK K
      refine wpAny_ready (rs := [3]) (by kernel_rfl) (by simp) ?_
      refine AllReady.cons rfl (fun K hK => ?_) AllReady.nil
      refine step_store_row rfl 124 _ _ rfl (w.heap.size + 1) _ rfl rfl 124 _ (TB.out _) S2.out E2.out N2.out ?_
      refine hK _ _ ?_
      clear hK K
      refine wpAny_ready (rs := [4]) (by kernel_rfl) (by simp) ?_
      refine AllReady.cons rfl (fun K hK => ?_) AllReady.nil
      go_simp
      refine hK _ _ ?_
      clear hK K
      refine wpAny_done (by kernel_rfl) ?_ _
      go_wp2
      refine bodyPost_ret (v := rows2 a.size (pad (turnD (dgS a) (dgS b))) (pad (passD (dgS a) (dgS b))) true) ?_ rfl ⟨rfl, FW.out⟩
      exact results_rows Tryd.results149 _ _ w.heap.size (w.heap.size + 1) 124 _ _ (0, 0) _ _ rfl rfl rfl FA.out FB.out Tryd.underlying124 rfl S3.out S2.out
  · refine AllReady.cons rfl (fun K hK => ?_) AllReady.nil
    refine step_load_row rfl 124 _ rfl w5.heap.size rfl 124 _ (0, 0) _ (DP.out) Tryd.underlying124 rfl S2.out ?_
    refine hK _ _ ?_
    clear hK K
    refine wpAny_ready (rs := [0]) (by kernel_rfl) (by simp) ?_
    refine AllReady.cons rfl (fun K hK => ?_) AllReady.nil
    refine step_load_row rfl 124 _ rfl w3.heap.size rfl 124 _ (0, 0) _ (DT.out) Tryd.underlying124 rfl S3.out ?_
    refine hK _ _ ?_
    clear hK K
    refine wpAny_ready (rs := [2]) (by kernel_rfl) (by simp) ?_
    refine AllReady.cons rfl (fun K hK => ?_) AllReady.nil
    refine step_store_row rfl 124 _ _ rfl w.heap.size _ rfl rfl 124 _ (DA2.out) S3.out E3.out N3.out ?_
    refine hK _ _ ?_
    clear hK K
    refine wpAny_ready (rs := [3]) (by kernel_rfl) (by simp) ?_
    refine AllReady.cons rfl (fun K hK => ?_) AllReady.nil
    refine step_store_row rfl 124 _ _ rfl (w.heap.size + 1) _ rfl rfl 124 _ (TB.out _) S2.out E2.out N2.out ?_
    refine hK _ _ ?_
    clear hK K
    refine wpAny_ready (rs := [4]) (by kernel_rfl) (by simp) ?_
    refine AllReady.cons rfl (fun K hK => ?_) AllReady.nil
    go_simp
    refine hK _ _ ?_
    clear hK K
    refine wpAny_done (by kernel_rfl) ?_ _
    go_wp2
    refine bodyPost_ret (v := rows2 a.size (pad (turnD (dgS a) (dgS b))) (pad (passD (dgS a) (dgS b))) true) ?_ rfl ⟨rfl, FW.out⟩
    exact results_rows Tryd.results149 _ _ w.heap.size (w.heap.size + 1) 124 _ _ (0, 0) _ _ rfl rfl rfl FA.out FB.out Tryd.underlying124 rfl S3.out S2.out
/-- No rows. -/
theorem no_rows {P : Program} {fn : Func} {p q r : Tmp} (h : fn.results = #[.cell p 124, .cell q 124, .tmp r]) (hP : P = Tryd.prog) (tmps : Array Value) (w : World) (g1 g2 : Nat)
    (hp : tmps.getD p undef = .pointer (some ⟨g1, 0, none⟩)) (hq : tmps.getD q undef = .pointer (some ⟨g2, 0, none⟩)) (hr : tmps.getD r undef = .bool false) (h1 : RowAt w g1 0 (pad [])) (h2 : RowAt w g2 0 (pad [])) :
    (results fn tmps).run P w = .ok (rows2 0 (pad []) (pad []) false) w := by
  subst hP
  exact results_rows h tmps w g1 g2 124 _ _ (0, 0) _ _ hp hq hr h1 h2 Tryd.underlying124 rfl (row_size _ _ (by decide)) (row_size _ _ (by decide))
/-- The end of a function that returns no rows: both results are set to zero rows once more. -/
theorem zeros_twice (w : World) (A B : Nat) (hab : A ≠ B) (hA : RowAt w A 0 (pad [])) (hB : RowAt w B 0 (pad [])) : RowAt ((w.setRow A (rowC 0 (pad []))).setRow B (rowC 0 (pad []))) A 0 (pad []) ∧ RowAt ((w.setRow A (rowC 0 (pad []))).setRow B (rowC 0 (pad []))) B 0 (pad []) :=
  ⟨RowAt.setRowOther (RowAt.setRow hA _ _) _ _ hab, RowAt.setRow (RowAt.setRowOther hB _ _ (fun e => hab e.symm)) _ _⟩
set_option maxHeartbeats 4000000 in
set_option maxRecDepth 100000 in
theorem turned_no (a b : ByteArray) (h : pair a b = false) (w : World) (hsa : a.size ≤ 9223372036854775807) (hsb : b.size ≤ 9223372036854775807) :
    Calls Tryd.prog 149 #[.string a, .string b] w fun e w' => e = .returned (rows2 0 (pad []) (pad []) false) ∧ Below w.heap.size w w' := by
  have z1 : ∀ w : World, RowAt ((w.alloc (.cells (rowC 0 (pad [])) 124)).alloc (.cells (rowC 0 (pad [])) 124)) w.heap.size 0 (pad []) := fun w => (RowAt.fresh w 0 (pad [])).alloc _
  have z2 : ∀ w : World, RowAt ((w.alloc (.cells (rowC 0 (pad [])) 124)).alloc (.cells (rowC 0 (pad [])) 124)) (w.heap.size + 1) 0 (pad []) := fun w => by
    have h := RowAt.fresh (w.alloc (.cells (rowC 0 (pad [])) 124)) 0 (pad [])
    have e : (w.alloc (.cells (rowC 0 (pad [])) 124)).heap.size = w.heap.size + 1 := by simp
    rw [e] at h
    exact h
  have SZ := hidH (row_size 0 (pad []) (by decide))
  have OZ := hidH (row_one 0 (pad []))
  cases ha : ok a
  · have V1 := hidH fun w => h_colNot a hsa ha w
    clear h ha
    have Z1 := hidH (z1 w)
    have Z2 := hidH (z2 w)
    clear z1 z2
    go_enter Tryd.func149, Tryd.ntmps149
    go_wp2_with fail
    refine (V1.out _).mono ?_; rintro e w1 ⟨rfl, hb1⟩
    rw [← rowC_start] at hb1
    have y1 : RowAt w1 w.heap.size 0 (pad []) := Z1.out.below hb1
    have y2 : RowAt w1 (w.heap.size + 1) 0 (pad []) := Z2.out.below hb1
    have ⟨x1, x2⟩ := zeros_twice w1 w.heap.size (w.heap.size + 1) (by omega) y1 y2
    have BW : Hid (Below w.heap.size w w1) := (((Below.refl _ _).alloc (Nat.le_refl _) _).alloc (by simp) _).trans (hb1.mono (by simp; omega))
    have X1 := hidH x1
    have X2 := hidH x2
    have Y1 := hidH y1
    have Y2 := hidH (RowAt.setRowOther y2 w.heap.size (rowC 0 (pad [])) (by omega))
    clear y1 y2 x1 x2 hb1
    go_wp2_with (first | (refine wpList_store_row rfl 124 _ _ rfl w.heap.size (rowC 0 (pad [])) rfl rfl 124 _ Y1.out SZ.out rfl OZ.out ?_) | (refine wpList_store_row rfl 124 _ _ rfl (w.heap.size + 1) (rowC 0 (pad [])) rfl rfl 124 _ Y2.out SZ.out rfl OZ.out ?_))
    refine bodyPost_ret (v := rows2 0 (pad []) (pad []) false) ?_ rfl ⟨rfl, Below.setRow2 (Below.setRow2 BW.out _ _ (Nat.le_refl _)) _ _ (by omega)⟩
    exact no_rows Tryd.results149 rfl _ _ w.heap.size (w.heap.size + 1) rfl rfl rfl X1.out X2.out
  · cases hb : ok b
    · have V1 := hidH fun w => h_colValid a hsa ha w
      have V2 := hidH fun w => h_colNot b hsb hb w
      clear h ha hb
      have Z1 := hidH (z1 w)
      have Z2 := hidH (z2 w)
      clear z1 z2
      go_enter Tryd.func149, Tryd.ntmps149
      go_wp2_with fail
      refine (V1.out _).mono ?_; rintro e w1 ⟨rfl, hb1⟩
      go_wp2_with fail
      refine (V2.out _).mono ?_; rintro e w2 ⟨rfl, hb2⟩
      rw [← rowC_start] at hb1
      have y1 : RowAt w2 w.heap.size 0 (pad []) := (Z1.out.below hb1).below hb2
      have y2 : RowAt w2 (w.heap.size + 1) 0 (pad []) := (Z2.out.below hb1).below hb2
      have ⟨x1, x2⟩ := zeros_twice w2 w.heap.size (w.heap.size + 1) (by omega) y1 y2
      have BW : Hid (Below w.heap.size w w2) := ((((Below.refl _ _).alloc (Nat.le_refl _) _).alloc (by simp) _).trans (hb1.mono (by simp; omega))).trans (hb2.mono (by have := hb1.size; simp at this; omega))
      have X1 := hidH x1
      have X2 := hidH x2
      have Y1 := hidH y1
      have Y2 := hidH (RowAt.setRowOther y2 w.heap.size (rowC 0 (pad [])) (by omega))
      clear y1 y2 x1 x2 hb1 hb2
      go_wp2_with (first | (refine wpList_store_row rfl 124 _ _ rfl w.heap.size (rowC 0 (pad [])) rfl rfl 124 _ Y1.out SZ.out rfl OZ.out ?_) | (refine wpList_store_row rfl 124 _ _ rfl (w.heap.size + 1) (rowC 0 (pad [])) rfl rfl 124 _ Y2.out SZ.out rfl OZ.out ?_))
      refine bodyPost_ret (v := rows2 0 (pad []) (pad []) false) ?_ rfl ⟨rfl, Below.setRow2 (Below.setRow2 BW.out _ _ (Nat.le_refl _)) _ _ (by omega)⟩
      exact no_rows Tryd.results149 rfl _ _ w.heap.size (w.heap.size + 1) rfl rfl rfl X1.out X2.out
    · have V1 := hidH fun w => h_colValid a hsa ha w
      have V2 := hidH fun w => h_colValid b hsb hb w
      have hne : ((a.size : Int) != (b.size : Int)) = true := by
        rw [bne_iff_ne]
        intro e
        have := (pair_iff a b).2 ⟨ha, hb, by omega⟩
        rw [h] at this
        cases this
      clear h ha hb
      have Z1 := hidH (z1 w)
      have Z2 := hidH (z2 w)
      clear z1 z2
      go_enter Tryd.func149, Tryd.ntmps149
      go_wp2_with fail
      refine (V1.out _).mono ?_; rintro e w1 ⟨rfl, hb1⟩
      go_wp2_with fail
      refine (V2.out _).mono ?_; rintro e w2 ⟨rfl, hb2⟩
      rw [← rowC_start] at hb1
      have y1 : RowAt w2 w.heap.size 0 (pad []) := (Z1.out.below hb1).below hb2
      have y2 : RowAt w2 (w.heap.size + 1) 0 (pad []) := (Z2.out.below hb1).below hb2
      have ⟨x1, x2⟩ := zeros_twice w2 w.heap.size (w.heap.size + 1) (by omega) y1 y2
      have BW : Hid (Below w.heap.size w w2) := ((((Below.refl _ _).alloc (Nat.le_refl _) _).alloc (by simp) _).trans (hb1.mono (by simp; omega))).trans (hb2.mono (by have := hb1.size; simp at this; omega))
      have X1 := hidH x1
      have X2 := hidH x2
      have Y1 := hidH y1
      have Y2 := hidH (RowAt.setRowOther y2 w.heap.size (rowC 0 (pad [])) (by omega))
      clear y1 y2 x1 x2 hb1 hb2
      go_wp2_with (first | (refine wpList_store_row rfl 124 _ _ rfl w.heap.size (rowC 0 (pad [])) rfl rfl 124 _ Y1.out SZ.out rfl OZ.out ?_) | (refine wpList_store_row rfl 124 _ _ rfl (w.heap.size + 1) (rowC 0 (pad [])) rfl rfl 124 _ Y2.out SZ.out rfl OZ.out ?_))
      refine bodyPost_ret (v := rows2 0 (pad []) (pad []) false) ?_ rfl ⟨rfl, Below.setRow2 (Below.setRow2 BW.out _ _ (Nat.le_refl _)) _ _ (by omega)⟩
      exact no_rows Tryd.results149 rfl _ _ w.heap.size (w.heap.size + 1) rfl rfl rfl X1.out X2.out
end Go.Proofs.YtffmhcahiabicaaDoor
