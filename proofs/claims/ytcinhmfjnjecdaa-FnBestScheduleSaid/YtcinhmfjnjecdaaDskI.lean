/-
  BestSchedule: the program, at every argument; the next schedule in order: the model. No conditions but that slices fit in memory.
-/
import Derived.Test.YtcinhmfjnjecdaaDskH
namespace Go.Proofs.Ytcinhmfjnjecdaa
set_option maxRecDepth 4000
open Go.RowKit
theorem chain_none (m : Nat) (x : List Int) (l : List (List Int)) (h : Chain m (x :: l)) (hn : nxtS m x = none) : l = [] := by
  cases l with
  | nil => rfl
  | cons y l => rw [h.1] at hn; cases hn
theorem chain_some (m : Nat) (x y : List Int) (l : List (List Int)) (h : Chain m (x :: l)) (hn : nxtS m x = some y) : ∃ l', l = y :: l' ∧ Chain m (y :: l') := by
  cases l with
  | nil => have h : nxtS m x = none := h; rw [h] at hn; cases hn
  | cons z l =>
    have ⟨h1, h2⟩ := h
    rw [hn] at h1
    injection h1 with h1
    subst h1
    exact ⟨l, rfl, h2⟩
theorem fill_back (G : List Int) (p : Nat) (y : Int) (h : p < G.length) : (fill G (p + 1)).set p y = G.take p ++ y :: List.replicate (G.length - (p + 1)) 0 := by
  unfold fill
  obtain ⟨x, hx⟩ := get_lt G p h
  have hl : (G.take p).length = p := by rw [List.length_take]; omega
  rw [take_next G p x hx, List.append_assoc, List.set_append_right _ _ (by omega), hl, Nat.sub_self]
  rfl
theorem fill_back0 (G : List Int) (p : Nat) (h : p < G.length) : (fill G (p + 1)).set p 0 = fill G p := by
  rw [fill_back G p 0 h]
  unfold fill
  obtain ⟨q, hq⟩ : ∃ q, G.length - p = q + 1 := ⟨G.length - p - 1, by omega⟩
  rw [hq, List.replicate_succ, show G.length - (p + 1) = q by omega]
theorem fill_get (G : List Int) (p : Nat) (x : Int) (h : G[p]? = some x) : (fill G (p + 1))[p]? = some x := by
  have hp := (List.getElem?_eq_some_iff.1 h).1
  unfold fill
  rw [List.getElem?_append_left (by rw [List.length_take]; omega), List.getElem?_take, if_pos (by omega)]
  exact h
theorem next_split (m : Nat) (G : List Int) (p : Nat) (x : Int) (h : G[p]? = some x) (hx : x + 1 < (m : Int)) (hr : ∀ (j : Nat) (y : Int), p < j → G[j]? = some y → ¬ y + 1 < (m : Int)) : nxtS m G = some (G.take p ++ (x + 1) :: List.replicate (G.length - (p + 1)) 0) := by
  have hp := (List.getElem?_eq_some_iff.1 h).1
  have e : G = G.take p ++ x :: G.drop (p + 1) := by
    have h1 := List.take_append_drop (p + 1) G
    rw [take_next G p x h, List.append_assoc] at h1
    exact h1.symm
  have := next_at m (G.take p) x (G.drop (p + 1)) hx (fun b hb => by
    obtain ⟨j, hj⟩ := List.getElem?_of_mem hb
    rw [List.getElem?_drop] at hj
    exact hr _ b (by omega) hj)
  rw [← e, List.length_drop] at this
  exact this
set_option maxHeartbeats 1600000 in
theorem sNext8_any (g n : Nat) (G : List Int) (m : Nat) (w : World) (hB : Blk w g G) (hl : G.length = n) (hn : n ≤ 8) (hm : m ≤ 3) (hG : ∀ x ∈ G, 0 ≤ x ∧ x < (m : Int)) :
    Calls Try.prog 40 #[.slice (some ⟨g, 0, none⟩) n n, .int .i64 (m : Int)] w fun e w' => (e = .returned (.bool true) ∧ ∃ H, nxtS m G = some H ∧ Blk w' g H ∧ Onto g w w') ∨ (e = .returned (.bool false) ∧ nxtS m G = none ∧ Onto g w w') := by
  subst hl
  have HB := hidH hB
  have HG := hidH hG
  clear hB hG
  go_enter Try.func40, Try.ntmps40
  go_wp2_with fail
  go_loopw [5] (fun i wr => ∃ k : Nat, k ≤ G.length ∧ i = .int .i64 ((k : Int) - 1) ∧ (∀ (j : Nat) (y : Int), k ≤ j → G[j]? = some y → ¬ y + 1 < (m : Int)) ∧ Blk wr g (fill G k) ∧ Onto g w wr) (fun i _ => ((intOf i) + 1).toNat)
  case atStart => exact ⟨G.length, Nat.le_refl _, rfl, (fun j y hj hy => by have := (List.getElem?_eq_some_iff.1 hy).1; omega), by rw [fill_all]; exact HB.out, Onto.refl _ _⟩
  case round =>
    obtain ⟨k, hk, rfl, hr, hblk, ho⟩ := hrel
    have HR := hidH hr
    have HBK := hidH hblk
    have HO := hidH ho
    clear hr hblk ho
    cases k with
    | zero =>
      have HN := hidH (next_none m G (fun b hb => by
        obtain ⟨j, hj⟩ := List.getElem?_of_mem hb
        exact HR.out j b (Nat.zero_le _) hj))
      have hc : decide ((0 : Int) ≤ ((0 : Nat) : Int) - 1) = false := decide_eq_false (by omega)
      go_wp2_with fail
      go_ret
      exact Or.inr ⟨rfl, HN.out, HO.out⟩
    | succ p =>
      have hp1 : ((p + 1 : Nat) : Int) - 1 = (p : Int) := by omega
      rw [hp1]
      obtain ⟨x, hx⟩ := get_lt G p (by omega)
      have ⟨x0, xm⟩ := HG.out x (List.mem_of_getElem? hx)
      have HX := hidH hx
      obtain ⟨cx, fx⟩ := HBK.out.2 p x (fill_get G p x hx)
      clear hx
      by_cases c : x + 1 < (m : Int)
      · have HN := hidH (next_split m G p x HX.out c (fun j y hj hy => HR.out j y (by omega) hy))
        have HS := hidH (HBK.out.set p (x + 1))
        go_wp2_with fail
        go_ret
        refine Or.inl ⟨rfl, _, HN.out, ?_, HO.out.trans (Onto.setCell g p _ _)⟩
        rw [← fill_back G p (x + 1) (by omega)]
        exact HS.out
      · have c' : decide (x + 1 < (m : Int)) = false := decide_eq_false c
        have HS := hidH (HBK.out.set p 0)
        go_wp2_with fail
        go_roundw
        case rel =>
          refine ⟨p, by omega, by go_num, fun j y hj hy => ?_, ?_, HO.out.trans (Onto.setCell g p _ _)⟩
          · by_cases e : j = p
            · subst e; rw [HX.out] at hy; injection hy with hy; rw [← hy]; exact c
            · exact HR.out j y (by omega) hy
          · rw [← fill_back0 G p (by omega)]; exact HS.out
        case measure => simp [intOf]
theorem sNext8_some (g n : Nat) (G H : List Int) (m : Nat) (w : World) (hB : Blk w g G) (hl : G.length = n) (hn : n ≤ 8) (hm : m ≤ 3) (hG : ∀ x ∈ G, 0 ≤ x ∧ x < (m : Int)) (h : nxtS m G = some H) :
    Calls Try.prog 40 #[.slice (some ⟨g, 0, none⟩) n n, .int .i64 (m : Int)] w fun e w' => e = .returned (.bool true) ∧ Blk w' g H ∧ Onto g w w' := by
  refine (sNext8_any g n G m w hB hl hn hm hG).mono ?_
  rintro e w' (⟨h1, H', h2, h3, h4⟩ | ⟨_, h2, _⟩)
  · rw [h] at h2; injection h2 with h2; subst h2; exact ⟨h1, h3, h4⟩
  · rw [h] at h2; cases h2
theorem sNext8_none (g n : Nat) (G : List Int) (m : Nat) (w : World) (hB : Blk w g G) (hl : G.length = n) (hn : n ≤ 8) (hm : m ≤ 3) (hG : ∀ x ∈ G, 0 ≤ x ∧ x < (m : Int)) (h : nxtS m G = none) :
    Calls Try.prog 40 #[.slice (some ⟨g, 0, none⟩) n n, .int .i64 (m : Int)] w fun e w' => e = .returned (.bool false) ∧ Onto g w w' := by
  refine (sNext8_any g n G m w hB hl hn hm hG).mono ?_
  rintro e w' (⟨_, H', h2, _⟩ | ⟨h1, _, h3⟩)
  · rw [h] at h2; cases h2
  · exact ⟨h1, h3⟩
theorem bestA_no {T : List Int} {n : Int} (h : (timesOk T && nEngOk n) = false) : bestA T n = [] := by unfold bestA; rw [h]; rfl
theorem bestA_yes {T : List Int} {n : Int} (h1 : timesOk T = true) (h2 : nEngOk n = true) : bestA T n = (bestP T n.toNat).2 := by unfold bestA; rw [h1, h2]; rfl
theorem Srch.made (w : World) (n : Nat) (v0 : Value) (T : List Int) (m : Nat) (hn : T.length = n) (t1 t2 : Nat) :
    Srch ((w.alloc (.cells (madeCells #[Value.int .i64 0] n) t1)).alloc (.cells #[v0, .int .i64 (m : Int), .int .i64 0, .int .i64 0, .int .i64 0, .slice (some ⟨w.heap.size, 0, none⟩) n n, .slice none 0 0, .int .i64 8001] t2)) (w.heap.size + 1) w.heap.size v0 T m [0, 0, 0] (List.replicate n 0) 8001 [] := by
  subst hn
  have hs : (w.alloc (.cells (madeCells #[Value.int .i64 0] T.length) t1)).heap.size = w.heap.size + 1 := by simp
  have hc : ∀ o v, (#[v0, .int .i64 (m : Int), .int .i64 0, .int .i64 0, .int .i64 0, .slice (some ⟨w.heap.size, 0, none⟩) T.length T.length, .slice none 0 0, .int .i64 8001] : Array Value)[o]? = some v → ((w.alloc (.cells (madeCells #[Value.int .i64 0] T.length) t1)).alloc (.cells #[v0, .int .i64 (m : Int), .int .i64 0, .int .i64 0, .int .i64 0, .slice (some ⟨w.heap.size, 0, none⟩) T.length T.length, .slice none 0 0, .int .i64 8001] t2)).cell? ⟨w.heap.size + 1, o, none⟩ = some v := fun o v h => by
    rw [← hs, World.cell?_alloc_at _ _ _ _ rfl]; exact h
  have hf : ∀ o, ((w.alloc (.cells (madeCells #[Value.int .i64 0] T.length) t1)).alloc (.cells #[v0, .int .i64 (m : Int), .int .i64 0, .int .i64 0, .int .i64 0, .slice (some ⟨w.heap.size, 0, none⟩) T.length T.length, .slice none 0 0, .int .i64 8001] t2)).frozen? ⟨w.heap.size + 1, o, none⟩ = false := fun o => by
    rw [← hs]; exact cells_frozen _ _ _ _
  refine ⟨Nat.lt_succ_self _, hc 0 _ rfl, hc 1 _ rfl, ⟨by simp, rfl, fun j z hj => ?_, fun j _ => hf _⟩, hc 5 _ rfl, (Blk.made w t1 T.length).below ((Below.refl _ _).alloc (Nat.le_refl _) _), ⟨_, hc 6 _ rfl, Row.nil _ _ _ _ _ (Nat.zero_le _) (fun _ => rfl)⟩, hc 7 _ rfl, hf 6, hf 7, by simp⟩
  match j, hj with
  | 0, hj => injection hj with hj; subst hj; exact hc 2 _ rfl
  | 1, hj => injection hj with hj; subst hj; exact hc 3 _ rfl
  | 2, hj => injection hj with hj; subst hj; exact hc 4 _ rfl
set_option maxHeartbeats 1600000 in
theorem bestS_any (v0 : Value) (zs0 : List Int) (n : Int) (w : World) (hv0 : Lies w 0 w.heap.size v0 zs0) : Calls Try.prog 13 #[v0, .int .i64 n] w (NewRow (bestA zs0 n) w) := by
  have HT := hidH (timesV_any v0 zs0 w _ _ hv0)
  have HE := hidH (engV_any n w)
  have HV0 := hidH hv0
  obtain ⟨a0, cap0, rfl, hlc0, hcm0, _, _⟩ := hv0
  unfold maxLen at hcm0
  cases h1 : timesOk zs0
  · have HR := hidH (bestA_no (T := zs0) (n := n) (by rw [h1]; rfl))
    rw [h1] at HT
    clear h1
    go_enter Try.func13, Try.ntmps13
    go_wp2_with fail
    refine HT.out.mono ?_; rintro e w1 ⟨rfl, rfl⟩
    go_wp2_with fail
    go_ret
    rw [HR.out]
    exact ⟨_, rfl, Row.nil _ _ _ _ _ (Nat.zero_le _) (fun _ => rfl), Below.refl _ _⟩
  · cases h2 : nEngOk n
    · have HR := hidH (bestA_no (T := zs0) (n := n) (by rw [h2, Bool.and_false]))
      rw [h1] at HT
      rw [h2] at HE
      clear h1 h2
      go_enter Try.func13, Try.ntmps13
      go_wp2_with fail
      refine HT.out.mono ?_; rintro e w1 ⟨rfl, rfl⟩
      go_wp2_with fail
      refine HE.out.mono ?_; rintro e w1 ⟨rfl, rfl⟩
      go_wp2_with fail
      go_ret
      rw [HR.out]
      exact ⟨_, rfl, Row.nil _ _ _ _ _ (Nat.zero_le _) (fun _ => rfl), Below.refl _ _⟩
    · rw [h1] at HT
      rw [h2] at HE
      have ⟨n1, n2⟩ := of_decide_eq_true h2
      have ⟨t1, _⟩ := timesOk_parts h1
      have HR := hidH (bestA_yes h1 h2)
      obtain ⟨m, rfl⟩ : ∃ m : Nat, n = (m : Int) := ⟨n.toNat, by omega⟩
      have HMD := hidH (Srch.made w zs0.length (.slice a0 zs0.length cap0) zs0 m rfl 3 57)
      have HB1 := hidH (bMore (bMore (Below.refl w.heap.size w) (.cells (madeCells #[Value.int .i64 0] zs0.length) 3)) (.cells #[.slice a0 zs0.length cap0, .int .i64 (m : Int), .int .i64 0, .int .i64 0, .int .i64 0, .slice (some ⟨w.heap.size, 0, none⟩) zs0.length zs0.length, .slice none 0 0, .int .i64 8001] 57))
      have HGF := hidH (giveFrom_any (w.heap.size + 1) w.heap.size (.slice a0 zs0.length cap0) zs0 m (by omega) h1 zs0.length 0 [0, 0, 0] (List.replicate zs0.length 0) 8001 [] _ HMD.out (lies_g HV0.out HB1.out) (Nat.zero_add _) (by rw [loadsL_zero]; rfl))
      have hmk := run_make_row' (P := Try.prog) 23 3 (.int .i64 0) 8 Try.underlying23 infoInt rfl .i64 .i64 zs0.length (by omega) (by omega) w
      clear h1 h2
      go_enter Try.func13, Try.ntmps13
      go_wp2_with fail
      refine HT.out.mono ?_; rintro e w1 ⟨rfl, rfl⟩
      go_wp2_with fail
      refine HE.out.mono ?_; rintro e w1 ⟨rfl, rfl⟩
      go_wp2_with fail
      refine HGF.out.mono ?_; rintro e w2 ⟨rfl, G, hS, _, hb⟩
      have HB2 := hidH (HB1.out.trans hb)
      obtain ⟨bv, c6, hr⟩ := hS.best
      have HRr := hidH hr
      have hbs := hS.books.lt
      clear hS hb hr
      go_wp2_with fail
      go_ret
      rw [HR.out, Int.toNat_natCast]
      exact ⟨_, rfl, HRr.out.mono (by omega) (Nat.le_refl _), HB2.out⟩
end Go.Proofs.Ytcinhmfjnjecdaa
