/-
  The draws of numbers for the laws of chapter 4. No conditions but that the bytes that came in can be read.
-/
import Derived.Test.YtlicihjjbojpcaaKitP
import Derived.OwnWalk
namespace Go.Proofs.Ytlicihjjbojpcaa
set_option maxRecDepth 4000
open Go.RowKit
/-- Two drawn numbers. -/
def DrawN2 (w : World) (e : Ending) (w' : World) : Prop := ∃ n k : Int, e = .returned (.tuple #[.int .i64 n, .int .i64 k]) ∧ Below w.heap.size w w'
/-- Four drawn numbers. -/
def DrawN4 (w : World) (e : Ending) (w' : World) : Prop := ∃ c t a n : Int, e = .returned (.tuple #[.int .i64 c, .int .i64 t, .int .i64 a, .int .i64 n]) ∧ Below w.heap.size w w'
def exNums1 : List Int := [1000000000, 1000000001, -1, 999999999]
def exNums2 : List Int := [-1, 8, 9, 9223372036854775807]
def paNums1 : List Int := [-1, 8, 9223372036854775807]
def paNums2 : List Int := [1000000000, 1000000001, -9223372036854775808]
def tuNums1 : List Int := [-1, 6, 7]
def tuNums2 : List Int := [-1, 59, 60]
def tuNums3 : List Int := [100000, 100001, -9223372036854775808]
def slNums : List Int := [-1, 60, 61]
/-- A drawn slip. -/
def Slip3 (r B : Nat) (w : World) (e : Ending) (w' : World) : Prop := ∃ c t a : Int, e = .returned (.tuple #[.int .i64 c, .int .i64 t, .int .i64 a]) ∧ Rd w' r (B + 5) ∧ Onto r w w'
set_option maxHeartbeats 800000 in
theorem turn4_any (r B : Nat) (w : World) (h : Rd w r B) (hB : B ≤ 800000) : Calls Try.prog 82 #[.pointer (some ⟨r, 0, none⟩)] w (Slip3 r B w) := by
  have R0 := hidH h
  have hr0 := h.lt
  have O0 := hidH (Onto.refl r w)
  clear h
  go_enter Try.func82, Try.ntmps82
  go_wp2_with fail
  refine (pick_any 5 r _ w R0.out (by omega)).mono ?_
  rintro e w1 ⟨c, rfl, c0, c1, hR, hO⟩
  have R1 := hidH hR
  have O1 := hidH (O0.out.trans hO)
  clear c0 c1 hR hO
  go_wp2_with fail
  refine (pick_any 8 r _ w1 R1.out (by omega)).mono ?_
  rintro e w2 ⟨t, rfl, t0, t1, hR, hO⟩
  have R2 := hidH hR
  have O2 := hidH (O1.out.trans hO)
  clear t0 t1 hR hO
  go_wp2_with fail
  refine (pick_any 20 r _ w2 R2.out (by omega)).mono ?_
  rintro e w3 ⟨q, rfl, q0, q1, hR, hO⟩
  have R3 := hidH hR
  have O3 := hidH (O2.out.trans hO)
  clear q0 q1 hR hO
  go_wp2_with fail
  refine (pick_any 20 r _ w3 R3.out (by omega)).mono ?_
  rintro e w4 ⟨x, rfl, x0, x1, hR, hO⟩
  have R4 := hidH hR
  have O4 := hidH (O3.out.trans hO)
  clear x0 x1 hR hO
  by_cases e1 : x = 0
  · have b1 : (x == 0) = true := beq_iff_eq.2 e1
    clear e1
    go_wp2_with fail
    have hN := num_any w4.heap.size 0 tuNums1 r _ (w4.alloc (.cells (intC tuNums1) 3)) (R4.out.onto ((Below.refl _ _).alloc (Nat.le_refl _) _)) (by omega) (by decide) (by decide) (ints_new _ _ _ _ R4.out.lt)
    refine hN.mono ?_
    rintro e w5 ⟨n, hz, rfl, hR, hO⟩
    have R5 := hidH hR
    have O5 := hidH (O4.out.trans (((Onto.refl _ _).alloc (.cells (intC tuNums1) 3)).trans hO))
    clear hN hz hR hO
    go_wp2_with fail
    go_ret3
    exact ⟨_, _, _, rfl, R5.out.more (by omega), O5.out⟩
  · have b1 : (x == 0) = false := beq_eq_false_iff_ne.2 e1
    clear e1
    by_cases e2 : x = 1
    · have b2 : (x == 1) = true := beq_iff_eq.2 e2
      clear e2
      go_wp2_with fail
      have hN := num_any w4.heap.size 0 tuNums2 r _ (w4.alloc (.cells (intC tuNums2) 3)) (R4.out.onto ((Below.refl _ _).alloc (Nat.le_refl _) _)) (by omega) (by decide) (by decide) (ints_new _ _ _ _ R4.out.lt)
      refine hN.mono ?_
      rintro e w5 ⟨n, hz, rfl, hR, hO⟩
      have R5 := hidH hR
      have O5 := hidH (O4.out.trans (((Onto.refl _ _).alloc (.cells (intC tuNums2) 3)).trans hO))
      clear hN hz hR hO
      go_wp2_with fail
      go_ret3
      exact ⟨_, _, _, rfl, R5.out.more (by omega), O5.out⟩
    · have b2 : (x == 1) = false := beq_eq_false_iff_ne.2 e2
      clear e2
      by_cases e3 : x = 2
      · have b3 : (x == 2) = true := beq_iff_eq.2 e3
        clear e3
        go_wp2_with fail
        have hN := num_any w4.heap.size 0 tuNums3 r _ (w4.alloc (.cells (intC tuNums3) 3)) (R4.out.onto ((Below.refl _ _).alloc (Nat.le_refl _) _)) (by omega) (by decide) (by decide) (ints_new _ _ _ _ R4.out.lt)
        refine hN.mono ?_
        rintro e w5 ⟨n, hz, rfl, hR, hO⟩
        have R5 := hidH hR
        have O5 := hidH (O4.out.trans (((Onto.refl _ _).alloc (.cells (intC tuNums3) 3)).trans hO))
        clear hN hz hR hO
        go_wp2_with fail
        go_ret3
        exact ⟨_, _, _, rfl, R5.out.more (by omega), O5.out⟩
      · have b3 : (x == 2) = false := beq_eq_false_iff_ne.2 e3
        clear e3
        go_wp2_with fail
        go_ret3
        exact ⟨_, _, _, rfl, R4.out.more (by omega), O4.out⟩
theorem results_tmp4k {fn : Func} {t u v x : Tmp} (h : fn.results = #[.tmp t, .tmp u, .tmp v, .tmp x]) (tmps : Array Value) (P : Program) (w : World) :
    (results fn tmps).run P w = .ok (.tuple #[tmps.getD t undef, tmps.getD u undef, tmps.getD v undef, tmps.getD x undef]) w := by
  simp [results, h]
end Go.Proofs.Ytlicihjjbojpcaa
