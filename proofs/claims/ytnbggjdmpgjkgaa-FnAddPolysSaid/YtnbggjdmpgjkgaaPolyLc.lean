/-
  The walk of a law: the next value is the value plus that of the differences, and at 0 it is the first difference. No conditions but that the bytes that came in can be read.
-/
import Derived.Test.YtnbggjdmpgjkgaaKitR
import Derived.Test.YtnbggjdmpgjkgaaPolyE
import Derived.Test.YtnbggjdmpgjkgaaPolyG
import Derived.Deep.RegionWith
namespace Go.Proofs.Ytnbggjdmpgjkgaa
open Go.RowKit
/-- The law's own evaluation. -/
theorem at_any (v : Value) (zs : List Int) (n : Int) (w : World) (lo hi : Nat) (hv : Lies w lo hi v zs) : Calls Try.prog 17 #[v, .int .i64 n] w (Gives (.int .i64 (evA zs n)) w) := by
  have HI := hidH (evalPoly_any v zs n w lo hi hv)
  clear hv
  go_enter Try.func17, Try.ntmps17
  go_wp2_with fail
  refine HI.out.mono ?_; rintro e w1 ⟨rfl, hb⟩
  have HB := hidH hb
  generalize evA zs n = x at *
  generalize evB zs n = y at *
  clear hb
  go_wp2_with fail
  go_ret
  exact ⟨rfl, HB.out⟩
theorem evA_ok (zs : List Int) (n : Int) (hz : polyOk zs = true) (h1 : -200 ≤ n) (h2 : n ≤ 200) : evA zs n = evP zs n := by
  rw [evA, hz, show inB 200 n = true from decide_eq_true ⟨h1, h2⟩]; rfl
theorem evB_ways (zs : List Int) (n : Int) : (evB zs n = true ∧ polyOk zs = true ∧ -200 ≤ n ∧ n ≤ 200) ∨ evB zs n = false := by
  unfold evB
  cases hz : polyOk zs
  · exact .inr rfl
  · cases hn : inB 200 n
    · exact .inr rfl
    · have := of_decide_eq_true hn
      exact .inl ⟨rfl, rfl, this.1, this.2⟩
theorem diff_ok (zs : List Int) (hz : polyOk zs = true) : polyOk (diffA zs) = true := by
  have ⟨h1, h2, h3⟩ := (listOk_iff _ _ _).1 hz
  unfold diffA
  rw [hz, if_pos rfl]
  split
  · decide
  · refine (listOk_iff _ _ _).2 ⟨by rw [List.length_tail]; omega, by rw [List.length_tail]; omega, fun x hx => h3 x (List.mem_of_mem_tail hx)⟩
theorem diff_ev (zs : List Int) (n : Int) (hz : polyOk zs = true) : evP (diffA zs) n = evP zs.tail n := by
  unfold diffA
  rw [hz, if_pos rfl]
  split
  · rename_i h
    obtain ⟨x, rfl⟩ := List.length_eq_one_iff.1 h
    simp [evP, ev]
  · rfl
theorem diff_law (zs : List Int) (n : Int) (hz : polyOk zs = true) (h1 : -200 ≤ n) (h2 : n < 200) : evA zs (n + 1) = evA zs n + evA (diffA zs) n := by
  rw [evA_ok zs _ hz (by omega) (by omega), evA_ok zs _ hz h1 (by omega), evA_ok _ _ (diff_ok zs hz) h1 (by omega), evP_step, diff_ev zs n hz]
theorem first_law (zs : List Int) (x : Int) (hx : zs[0]? = some x) (hz : polyOk zs = true) : evA zs 0 = x := by
  rw [evA_ok zs 0 hz (by omega) (by omega)]
  cases zs with
  | nil => simp at hx
  | cons y zs => simp at hx; subst hx; exact evP_zero _ _
theorem evA_bd (zs : List Int) (n : Int) : -900000000000000000 ≤ evA zs n ∧ evA zs n ≤ 900000000000000000 := by
  unfold evA
  split
  · rename_i h
    simp only [Bool.and_eq_true] at h
    have hn := of_decide_eq_true h.2
    exact (polyOk_small _ h.1).2.bd n (by omega) (by omega)
  · omega
set_option maxHeartbeats 1000000 in
theorem lawEvalDifference (a : Option Addr) (len cap : Nat) (w : World) (hc : Came w a len cap) : Calls Try.prog 5 #[.slice a len cap] w (Gives (.bool true) w) := by
  have hcap := hc.lenLe
  have hcap2 := hc.capLe
  unfold maxLen at hcap2
  by_cases hbig : 1048576 < len
  · clear hc
    go_enter Try.func5, Try.ntmps5
    go_wp2
    go_ret
    exact ⟨rfl, Below.refl _ _⟩
  · have HD := hidH (drawEvalPoly a len cap w hc (by omega))
    clear hc
    go_enter Try.func5, Try.ntmps5
    go_wp2_with fail
    refine HD.out.mono ?_
    rintro e w1 ⟨v, zs, n, rfl, hrow, h8, hB⟩
    have RW := hidH hrow
    have B1 := hidH hB
    clear hrow hB HD
    go_wp2_with fail
    refine (evalPoly_any v zs n w1 _ _ RW.out.lies).mono ?_; rintro e w2 ⟨rfl, hb⟩
    have RW2 := hidH (RW.out.below hb)
    have B2 := hidH (B1.out.trans (hb.mono B1.out.size))
    clear hb RW
    go_wp2_with fail
    refine (sEvalPoly_any v zs n w2 _ _ RW2.out.lies).mono ?_; rintro e w3 ⟨rfl, hb⟩
    have RW3 := hidH (RW2.out.below hb)
    have B3 := hidH (B2.out.trans (hb.mono B2.out.size))
    clear hb RW2
    rcases evB_ways zs n with ⟨he, hz, n1, n2⟩ | he
    · rw [he]
      clear he
      by_cases hn : n = 200
      · subst hn
        generalize evA zs 200 = x at *
        go_wp2_with fail
        go_ret
        exact ⟨rfl, B3.out⟩
      · have hnb : (n == 200) = false := beq_eq_false_iff_ne.2 hn
        have n3 : n < 200 := by omega
        have ⟨k1, k2⟩ := (listOk_iff _ _ _).1 hz
        obtain ⟨y, hy⟩ := get_lt zs 0 (by omega)
        have HDL := hidH (diff_law zs n hz n1 n3)
        have HFL := hidH (first_law zs y hy hz)
        have ⟨d1, d2⟩ := evA_bd zs n
        have ⟨d3, d4⟩ := evA_bd (diffA zs) n
        generalize evA zs n = x at *
        clear hn hz k2
        obtain ⟨b, off, cp, rfl, hlc, _, _, _, hbw, hcell⟩ := RW3.out.lies.addr (by omega)
        have hc0 := hcell 0 y hy
        rw [Nat.add_zero] at hc0
        have HC0 := hidH hc0
        have HE0 := hidH HFL.out
        have HA1 := hidH fun (W : World) (hb : Below w3.heap.size w3 W) => (at_any _ zs (n + 1) W _ _ (RW3.out.below hb).lies).mono fun e w' (h : Gives _ W e w') => (⟨h.1, hb.trans (h.2.mono hb.size)⟩ : e = .returned (.int .i64 (evA zs (n + 1))) ∧ Below w3.heap.size w3 w')
        have HA0 := hidH fun (W : World) (hb : Below w3.heap.size w3 W) => (at_any _ zs 0 W _ _ (RW3.out.below hb).lies).mono fun e w' (h : Gives _ W e w') => (⟨by rw [h.1, HE0.out], hb.trans (h.2.mono hb.size)⟩ : e = .returned (.int .i64 y) ∧ Below w3.heap.size w3 w')
        have HDf := hidH fun (W : World) (hb : Below w3.heap.size w3 W) => (difference_any _ zs W _ _ (RW3.out.below hb).lies).mono fun e w' (h : NewRow (diffA zs) W e w') =>
          (show ∃ u, e = .returned u ∧ Below w3.heap.size w3 w' ∧ ∀ W2, Below w'.heap.size w' W2 → Calls Try.prog 17 #[u, .int .i64 n] W2 fun e w'' => e = .returned (.int .i64 (evA (diffA zs) n)) ∧ Below w3.heap.size w3 w'' by
            obtain ⟨u, rfl, hr, hbq⟩ := h
            have hb1 := hb.trans (hbq.mono hb.size)
            exact ⟨u, rfl, hb1, fun W2 hb2 => (at_any u (diffA zs) n W2 _ _ (hr.below hb2).lies).mono fun e w'' (h : Gives _ W2 e w'') => ⟨h.1, (hb1.trans (hb2.mono hb1.size)).trans (h.2.mono (by have := hb1.size; have := hb2.size; omega))⟩⟩)
        have HBc := hidH (Below.refl w3.heap.size w3)
        generalize evA zs (n + 1) = x1 at *
        generalize evA (diffA zs) n = x2 at *
        have hsum : (x1 == x + x2) = true := beq_iff_eq.2 HDL.out
        have hlz : 0 < zs.length := by omega
        have v1 : IntKind.i64.wrap (n + 1) = n + 1 := IntWalk.i64_in _ (by omega)
        have v2 : IntKind.i64.wrap (x + x2) = x + x2 := IntWalk.i64_in _ (by omega)
        clear hcell hy RW3 HFL HE0
        go_wp2_with fail
        go_region_with (first
          | (go_at_call 18; (with_reducible refine (HDf.out _ (by first | exact HBc.out | exact HBc.out.drew)).mono ?_); rintro e wd ⟨u, rfl, hbd, hu⟩; have HU := hidH hu; have HBc := hidH hbd; have hcd : wd.cell? ⟨b, off, none⟩ = some (.int .i64 y) := (by rw [HBc.out.cell (p := ⟨b, off, none⟩) hbw]; exact HC0.out); clear hbd hu)
          | (go_at_call 17; (with_reducible refine (HA1.out _ (by first | exact HBc.out | exact HBc.out.drew)).mono ?_); rintro e wd ⟨rfl, hbd⟩; have HBc := hidH hbd; have hcd : wd.cell? ⟨b, off, none⟩ = some (.int .i64 y) := (by rw [HBc.out.cell (p := ⟨b, off, none⟩) hbw]; exact HC0.out); clear hbd)
          | (go_at_call 17; (with_reducible refine (HU.out _ (by first | exact Below.refl _ _ | exact (Below.refl _ _).drew)).mono ?_); rintro e wd ⟨rfl, hbd⟩; have HBc := hidH hbd; have hcd : wd.cell? ⟨b, off, none⟩ = some (.int .i64 y) := (by rw [HBc.out.cell (p := ⟨b, off, none⟩) hbw]; exact HC0.out); clear hbd)
          | (go_at_call 17; (with_reducible refine (HA0.out _ (by first | exact HBc.out | exact HBc.out.drew)).mono ?_); rintro e wd ⟨rfl, hbd⟩; have HBc := hidH hbd; have hcd : wd.cell? ⟨b, off, none⟩ = some (.int .i64 y) := (by rw [HBc.out.cell (p := ⟨b, off, none⟩) hbw]; exact HC0.out); clear hbd))
        all_goals (go_wp2_with fail; go_ret; exact ⟨rfl, B3.out.trans (HBc.out.mono B3.out.size)⟩)
    · rw [he]
      clear he
      generalize evA zs n = x at *
      go_wp2_with fail
      go_ret
      exact ⟨rfl, B3.out⟩
end Go.Proofs.Ytnbggjdmpgjkgaa
