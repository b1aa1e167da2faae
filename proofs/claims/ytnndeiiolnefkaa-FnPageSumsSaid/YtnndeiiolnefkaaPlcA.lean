/-
  Places of a layout: the program. No conditions.
-/
import Derived.Test.YtnndeiiolnefkaaPlcM
import Derived.Test.YtnndeiiolnefkaaRndA
import Derived.Test.YtnndeiiolnefkaaBox
import Derived.Deep.CutRange
import Derived.Deep.RegionWith
namespace Go.Proofs.Ytnndeiiolnefkaa
set_option maxRecDepth 4000
open Go.RowKit
/-- A layout as a value. -/
def layV (R A W : Int) : Value := .agg #[.int .i64 R, .int .i64 A, .int .i64 W]
/-- The block of a layout. -/
def layC (R A W : Int) : Obj := .cells #[.int .i64 R, .int .i64 A, .int .i64 W] 38
theorem results_four {fn : Func} {t u v x : Tmp} (h : fn.results = #[.tmp t, .tmp u, .tmp v, .tmp x]) (tmps : Array Value) (P : Program) (w : World) :
    (results fn tmps).run P w = .ok (.tuple #[tmps.getD t undef, tmps.getD u undef, tmps.getD v undef, tmps.getD x undef]) w := by
  unfold results
  rw [h]
  simp
/-- Block b holds a layout. -/
def LayAt (w : World) (b : Nat) (R A W : Int) : Prop := w.heap[b]? = some (layC R A W)
theorem LayAt.cell0 {w : World} {b : Nat} {R A W : Int} (h : LayAt w b R A W) : w.cell? ⟨b, 0, none⟩ = some (.int .i64 R) := by
  unfold LayAt layC at h
  simp [World.cell?, h]
theorem LayAt.cell1 {w : World} {b : Nat} {R A W : Int} (h : LayAt w b R A W) : w.cell? ⟨b, 1, none⟩ = some (.int .i64 A) := by
  unfold LayAt layC at h
  simp [World.cell?, h]
theorem LayAt.cell2 {w : World} {b : Nat} {R A W : Int} (h : LayAt w b R A W) : w.cell? ⟨b, 2, none⟩ = some (.int .i64 W) := by
  unfold LayAt layC at h
  simp [World.cell?, h]
theorem LayAt.lt {w : World} {b : Nat} {R A W : Int} (h : LayAt w b R A W) : b < w.heap.size := (Array.getElem?_eq_some_iff.1 h).1
theorem LayAt.fresh (w : World) (R A W : Int) : LayAt (w.alloc (layC R A W)) w.heap.size R A W := heap_alloc_new w _
theorem LayAt.below {w w' : World} {b : Nat} {R A W : Int} (h : LayAt w b R A W) (hb : Below w.heap.size w w') : LayAt w' b R A W := by
  have hl := h.lt
  unfold LayAt at *
  rw [hb.block b hl]; exact h
theorem LayAt.apart {w w' : World} {b lo hi : Nat} {R A W : Int} (h : LayAt w b R A W) (hb : Apart lo hi w w') (hc : b < lo ∨ hi ≤ b) : LayAt w' b R A W := by
  have hl := h.lt
  unfold LayAt at *
  rw [hb.block b hl hc]; exact h
theorem layoutValid_any (R A W : Int) (w : World) : Calls Try.prog 44 #[layV R A W] w fun e w' => e = .returned (.bool (layOk R A W)) ∧ w' = w.alloc (.cells #[.int .i64 R, .int .i64 A, .int .i64 W] 38) := by
  unfold layOk layV
  have H1 := hidH (fun W' => between_any R 1 20 _ rfl W')
  have H2 := hidH (fun W' => between_any A 1 6 _ rfl W')
  have H3 := hidH (fun W' => between_any W 1 12 _ rfl W')
  generalize decide ((1 : Int) ≤ R ∧ R ≤ 20) = b1 at *
  generalize decide ((1 : Int) ≤ A ∧ A ≤ 6) = b2 at *
  generalize decide ((1 : Int) ≤ W ∧ W ≤ 12) = b3 at *
  cases b1
  · go_enter Try.func44, Try.ntmps44
    go_wp2_with fail
    refine (H1.out _).mono ?_; rintro e w1 ⟨rfl, rfl⟩
    go_wp2_with fail
    go_ret
    exact ⟨rfl, rfl⟩
  · cases b2
    · go_enter Try.func44, Try.ntmps44
      go_wp2_with fail
      refine (H1.out _).mono ?_; rintro e w1 ⟨rfl, rfl⟩
      go_wp2_with fail
      refine (H2.out _).mono ?_; rintro e w1 ⟨rfl, rfl⟩
      go_wp2_with fail
      go_ret
      exact ⟨rfl, rfl⟩
    · go_enter Try.func44, Try.ntmps44
      go_wp2_with fail
      refine (H1.out _).mono ?_; rintro e w1 ⟨rfl, rfl⟩
      go_wp2_with fail
      refine (H2.out _).mono ?_; rintro e w1 ⟨rfl, rfl⟩
      go_wp2_with fail
      refine (H3.out _).mono ?_; rintro e w1 ⟨rfl, rfl⟩
      go_wp2_with fail
      go_ret
      exact ⟨rfl, rfl⟩
theorem placesOf_page (R A W : Int) (h1 : 1 ≤ A * R) (h2 : A * R ≤ 120) (w : World) : Calls Try.prog 46 #[layV R A W, .int .i64 0] w fun e w' => e = .returned (.int .i64 (A * R)) ∧ w' = w.alloc (.cells #[.int .i64 R, .int .i64 A, .int .i64 W] 38) := by
  unfold layV
  go_enter Try.func46, Try.ntmps46
  go_wp2_with fail
  go_ret
  exact ⟨rfl, rfl⟩
theorem placesOf_col (R A W : Int) (h1 : 1 ≤ R) (h2 : R ≤ 20) (w : World) : Calls Try.prog 46 #[layV R A W, .int .i64 1] w fun e w' => e = .returned (.int .i64 R) ∧ w' = w.alloc (.cells #[.int .i64 R, .int .i64 A, .int .i64 W] 38) := by
  unfold layV
  go_enter Try.func46, Try.ntmps46
  go_wp2_with fail
  go_ret
  exact ⟨rfl, rfl⟩
theorem placesOf_some0 (R A W : Int) (w : World) : Calls Try.prog 46 #[layV R A W, .int .i64 0] w fun e w' => ∃ n : Int, e = .returned (.int .i64 n) ∧ w' = w.alloc (.cells #[.int .i64 R, .int .i64 A, .int .i64 W] 38) := by
  unfold layV
  go_enter Try.func46, Try.ntmps46
  go_wp2_with fail
  go_ret
  exact ⟨_, rfl, rfl⟩
theorem placesOf_some1 (R A W : Int) (w : World) : Calls Try.prog 46 #[layV R A W, .int .i64 1] w fun e w' => ∃ n : Int, e = .returned (.int .i64 n) ∧ w' = w.alloc (.cells #[.int .i64 R, .int .i64 A, .int .i64 W] 38) := by
  unfold layV
  go_enter Try.func46, Try.ntmps46
  go_wp2_with fail
  go_ret
  exact ⟨_, rfl, rfl⟩
theorem countValid6_any (c : Int) (w : World) : Calls Try.prog 49 #[.int .i64 c] w fun e w' => e = .returned (.bool (cntOk6 c)) ∧ w' = w := by
  unfold cntOk6
  by_cases h1 : 0 ≤ c
  · by_cases h2 : c ≤ 60
    · rw [show decide ((0 : Int) ≤ c ∧ c ≤ 60) = true from decide_eq_true ⟨h1, h2⟩]
      go_enter Try.func49, Try.ntmps49
      go_wp2_with fail
      go_ret
      exact ⟨rfl, rfl⟩
    · rw [show decide ((0 : Int) ≤ c ∧ c ≤ 60) = false from decide_eq_false (fun h => h2 h.2)]
      have hd : decide (c ≤ 60) = false := decide_eq_false h2
      go_enter Try.func49, Try.ntmps49
      go_wp2_with fail
      go_ret
      exact ⟨rfl, rfl⟩
  · rw [show decide ((0 : Int) ≤ c ∧ c ≤ 60) = false from decide_eq_false (fun h => h1 h.1)]
    have hd : decide ((0 : Int) ≤ c) = false := decide_eq_false h1
    go_enter Try.func49, Try.ntmps49
    go_wp2_with fail
    go_ret
    exact ⟨rfl, rfl⟩
theorem pagesNeeded_any (R A W c : Int) (w : World) : Calls Try.prog 24 #[layV R A W, .int .i64 c] w (Gives (.int .i64 (pagesA R A W c)) w) := by
  unfold pagesA
  have HL := hidH (fun W' => layoutValid_any R A W W')
  cases hl : layOk R A W
  · rw [hl] at HL
    clear hl
    unfold layV at *
    go_enter Try.func24, Try.ntmps24
    go_wp2_with fail
    refine (HL.out _).mono ?_; rintro e w1 ⟨rfl, rfl⟩
    go_wp2_with fail
    go_ret
    exact ⟨rfl, by (repeat (first | exact Below.refl _ _ | refine Below.drew ?_ | refine bMore ?_ _))⟩
  · rw [hl] at HL
    have ⟨⟨r1, r2⟩, ⟨a1, a2⟩, _⟩ := (layOk_iff R A W).1 hl
    have ⟨p1, p2, p3⟩ := places_bd R A r1 r2 a1 a2
    have HP := hidH (fun W' => placesOf_page R A W p1 p2 W')
    clear hl
    unfold layV at *
    cases hc : cntOk6 c
    · have HC := hidH hc
      clear hc
      go_enter Try.func24, Try.ntmps24
      go_wp2_with fail
      refine (HL.out _).mono ?_; rintro e w1 ⟨rfl, rfl⟩
      go_wp2_with fail
      refine (countValid6_any c _).mono ?_; rintro e w2 ⟨rfl, rfl⟩
      rw [HC.out]
      go_wp2_with fail
      go_ret
      exact ⟨rfl, by (repeat (first | exact Below.refl _ _ | refine Below.drew ?_ | refine bMore ?_ _))⟩
    · have ⟨c1, c2⟩ := of_decide_eq_true hc
      have HC := hidH hc
      clear hc
      have q1 : 0 ≤ (c + A * R - 1) / (A * R) := Int.ediv_nonneg (by omega) (by omega)
      have q2 : (c + A * R - 1) / (A * R) ≤ c + A * R - 1 := Int.ediv_le_self _ (by omega)
      go_enter Try.func24, Try.ntmps24
      go_wp2_with fail
      refine (HL.out _).mono ?_; rintro e w1 ⟨rfl, rfl⟩
      go_wp2_with fail
      refine (countValid6_any c _).mono ?_; rintro e w2 ⟨rfl, rfl⟩
      rw [HC.out]
      go_wp2_with fail
      refine (HP.out _).mono ?_; rintro e w3 ⟨rfl, rfl⟩
      go_wp2_with fail
      go_ret
      exact ⟨rfl, by (repeat (first | exact Below.refl _ _ | refine Below.drew ?_ | refine bMore ?_ _))⟩
theorem placeOf_no (R A W k : Int) (w : World) (h : plB R A W k = false) : Calls Try.prog 21 #[layV R A W, .int .i64 k] w (Gives (.tuple #[.int .i64 0, .int .i64 0, .int .i64 0, .bool false]) w) := by
  have HL := hidH (fun W' => layoutValid_any R A W W')
  unfold plB at h
  cases hl : layOk R A W
  · rw [hl] at HL
    clear hl h
    unfold layV at *
    go_enter Try.func21, Try.ntmps21
    go_wp2_with fail
    refine (HL.out _).mono ?_; rintro e w1 ⟨rfl, rfl⟩
    go_wp2_with fail
    ((try simp only [Exit.inBlock, Exit.then]); refine bodyPost_ret (results_four rfl _ _ _) rfl ?_)
    exact ⟨rfl, by (repeat (first | exact Below.refl _ _ | refine Below.drew ?_ | refine bMore ?_ _))⟩
  · rw [hl] at HL
    rw [hl, Bool.true_and] at h
    have HC := hidH (fun W' => between_any k 0 59 false h W')
    clear hl h
    unfold layV at *
    go_enter Try.func21, Try.ntmps21
    go_wp2_with fail
    refine (HL.out _).mono ?_; rintro e w1 ⟨rfl, rfl⟩
    go_wp2_with fail
    refine (HC.out _).mono ?_; rintro e w2 ⟨rfl, rfl⟩
    go_wp2_with fail
    ((try simp only [Exit.inBlock, Exit.then]); refine bodyPost_ret (results_four rfl _ _ _) rfl ?_)
    exact ⟨rfl, by (repeat (first | exact Below.refl _ _ | refine Below.drew ?_ | refine bMore ?_ _))⟩
set_option maxHeartbeats 1600000 in
theorem placeOf_yes (R A W k : Int) (w : World) (hl : layOk R A W = true) (hk : idxOk k = true) : Calls Try.prog 21 #[layV R A W, .int .i64 k] w (Gives (.tuple #[.int .i64 (k / (A * R)), .int .i64 (k % (A * R) % R), .int .i64 (k % (A * R) / R), .bool true]) w) := by
  have HL := hidH (fun W' => layoutValid_any R A W W')
  rw [hl] at HL
  have HC := hidH (fun W' => between_any k 0 59 true hk W')
  have ⟨k1, k2⟩ := of_decide_eq_true hk
  have ⟨⟨r1, r2⟩, ⟨a1, a2⟩, _⟩ := (layOk_iff R A W).1 hl
  have ⟨p1, p2, p3⟩ := places_bd R A r1 r2 a1 a2
  have HP := hidH (fun W' => placesOf_page R A W p1 p2 W')
  have HQ := hidH (fun W' => placesOf_col R A W r1 r2 W')
  have ⟨s1, s2, s3, s4, s5⟩ := split_place R (A * R) k r1 p1
  have ⟨s6, s7⟩ := col_bd R A (k % (A * R)) r1 s2 s3
  have s8 : 0 ≤ k / (A * R) := Int.ediv_nonneg k1 (by omega)
  have s9 : k / (A * R) ≤ k := Int.ediv_le_self _ k1
  clear hl hk s1
  unfold layV at *
  generalize A * R = P at *
  have T1 := hidH (show k.tmod P = k % P from Int.tmod_eq_emod_of_nonneg k1)
  have T2 := hidH (show IntKind.i64.wrap (k.tdiv P) = k / P from by rw [Int.tdiv_eq_ediv_of_nonneg k1]; exact IntWalk.i64_in _ (by omega))
  have T3 := hidH (show (k % P).tmod R = k % P % R from Int.tmod_eq_emod_of_nonneg s2)
  have T4 := hidH (show IntKind.i64.wrap ((k % P).tdiv R) = k % P / R from by rw [Int.tdiv_eq_ediv_of_nonneg s2]; exact IntWalk.i64_in _ (by omega))
  go_enter Try.func21, Try.ntmps21
  go_wp2_with fail
  refine (HL.out _).mono ?_; rintro e w1 ⟨rfl, rfl⟩
  go_wp2_with fail
  refine (HC.out _).mono ?_; rintro e w1 ⟨rfl, rfl⟩
  go_wp2_with fail
  have L1 := hidH ((LayAt.fresh w R A W).below (bMore (Below.refl _ _) (layC R A W)))
  have B1 := hidH (bMore (bMore (Below.refl w.heap.size w) (layC R A W)) (layC R A W))
  go_cut [8, 9] from 20 to 28 (fun s8 s9 wx => s8 = .int .i64 (k / P) ∧ s9 = .int .i64 (k % P) ∧ LayAt wx w.heap.size R A W ∧ Below w.heap.size w wx)
  case first =>
    go_region_with ((go_at_call 46; (with_reducible refine (HP.out _).mono ?_); rintro e wd ⟨rfl, rfl⟩))
    all_goals (
      go_wp2_with fail
      go_meet
      exact ⟨by first | rfl | rw [T2.out], by first | rfl | rw [T1.out], L1.out.below (by (repeat (first | exact Below.refl _ _ | refine Below.drew ?_ | refine bMore ?_ _))), bThen B1.out (by (repeat (first | exact Below.refl _ _ | refine Below.drew ?_ | refine bMore ?_ _)))⟩)
  case rest =>
    obtain ⟨rfl, rfl, hL, hB⟩ := hcut
    have c0 := hL.cell0
    have c1 := hL.cell1
    have c2 := hL.cell2
    have hlt := hL.lt
    have HB := hidH hB
    clear L1 B1 hL hB
    go_wp2_with fail
    go_cut [10, 11] from 28 to 36 (fun s8 s9 wx => s8 = .int .i64 (k % P / R) ∧ s9 = .int .i64 (k % P % R) ∧ Below w.heap.size w wx)
    case first =>
      go_region_with ((go_at_call 46; (with_reducible refine (HQ.out _).mono ?_); rintro e wd ⟨rfl, rfl⟩))
      all_goals (
        go_wp2_with fail
        go_meet
        exact ⟨by first | rfl | rw [T4.out], by first | rfl | rw [T3.out], bThen HB.out (by (repeat (first | exact Below.refl _ _ | refine Below.drew ?_ | refine bMore ?_ _)))⟩)
    case rest =>
      obtain ⟨rfl, rfl, hB⟩ := hcut
      have HB3 := hidH hB
      clear hB HB
      go_wp2_with fail
      ((try simp only [Exit.inBlock, Exit.then]); refine bodyPost_ret (results_four rfl _ _ _) rfl ?_)
      exact ⟨rfl, HB3.out⟩
end Go.Proofs.Ytnndeiiolnefkaa
