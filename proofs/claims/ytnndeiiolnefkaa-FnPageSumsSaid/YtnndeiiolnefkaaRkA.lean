/-
  The draws of numbers, digits and ways of rounding. No conditions but that the bytes that came in can be read.
-/
import Derived.Test.YtnndeiiolnefkaaKitP
import Derived.OwnWalk
namespace Go.Proofs.Ytnndeiiolnefkaa
set_option maxRecDepth 4000
open Go.RowKit
/-- Three drawn numbers. -/
def DrawN3 (w : World) (e : Ending) (w' : World) : Prop := ∃ n k y : Int, e = .returned (.tuple #[.int .i64 n, .int .i64 k, .int .i64 y]) ∧ -1 ≤ k ∧ k ≤ 7 ∧ Below w.heap.size w w'
def Draw1N (w : World) (e : Ending) (w' : World) : Prop := ∃ n : Int, e = .returned (.int .i64 n) ∧ Below w.heap.size w w'
/-- A drawn number, of a reader that lies in block r. -/
def NumR (r B : Nat) (w : World) (e : Ending) (w' : World) : Prop := ∃ n : Int, e = .returned (.int .i64 n) ∧ Rd w' r (B + 5) ∧ Onto r w w'
def NumR2 (r B : Nat) (w : World) (e : Ending) (w' : World) : Prop := ∃ n k : Int, e = .returned (.tuple #[.int .i64 n, .int .i64 k]) ∧ -1 ≤ n ∧ n ≤ 7 ∧ Rd w' r (B + 5) ∧ Onto r w w'
def gdNums1 : List Int := [-1, 7, 6, 0]
def gdNums2 : List Int := [-1, 3, 0, 9223372036854775807]
def gdNums3 : List Int := [1, 2, 3, 0]
def nbNums : List Int := [0, 5, -5, 15, 25, -15, -25, 50, 150, 1000000000, 1000000001, -1000000000, -1000000001, 9223372036854775807, -9223372036854775808]
set_option maxHeartbeats 800000 in
theorem guard6_any (r B : Nat) (w : World) (h : Rd w r B) (hB : B ≤ 800000) : Calls Try.prog 31 #[.pointer (some ⟨r, 0, none⟩)] w (NumR2 r B w) := by
  have R0 := hidH h
  have hr0 := h.lt
  have O0 := hidH (Onto.refl r w)
  clear h
  go_enter Try.func31, Try.ntmps31
  go_wp2_with fail
  refine (pick_any 16 r _ w R0.out (by omega)).mono ?_
  rintro e w1 ⟨x, rfl, x0, x1, hR, hO⟩
  have R1 := hidH hR
  have O1 := hidH (O0.out.trans hO)
  clear x0 x1 hR hO
  by_cases e1 : x = 0
  · have b1 : (x == 0) = true := beq_iff_eq.2 e1
    clear e1
    go_wp2_with fail
    have hN := num_any w1.heap.size 0 gdNums1 r _ (w1.alloc (.cells (intC gdNums1) 3)) (R1.out.onto ((Below.refl _ _).alloc (Nat.le_refl _) _)) (by omega) (by decide) (by decide) (ints_new _ _ _ _ R1.out.lt)
    refine hN.mono ?_
    rintro e w2 ⟨n1, hz, rfl, hR, hO⟩
    have R2 := hidH hR
    have O2 := hidH (O1.out.trans (((Onto.refl _ _).alloc (.cells (intC gdNums1) 3)).trans hO))
    have hz_n1 := hz
    clear hN hz hR hO
    go_wp2_with fail
    have hN := num_any w2.heap.size 0 gdNums2 r _ (w2.alloc (.cells (intC gdNums2) 3)) (R2.out.onto ((Below.refl _ _).alloc (Nat.le_refl _) _)) (by omega) (by decide) (by decide) (ints_new _ _ _ _ R2.out.lt)
    refine hN.mono ?_
    rintro e w3 ⟨n2, hz, rfl, hR, hO⟩
    have R3 := hidH hR
    have O3 := hidH (O2.out.trans (((Onto.refl _ _).alloc (.cells (intC gdNums2) 3)).trans hO))
    clear hN hz hR hO
    go_wp2_with fail
    go_ret2
    exact ⟨_, _, rfl, by simp [gdNums1] at hz_n1; omega, by simp [gdNums1] at hz_n1; omega, R3.out.more (by omega), O3.out⟩
  · have b1 : (x == 0) = false := beq_eq_false_iff_ne.2 e1
    clear e1
    go_wp2_with fail
    have hN := num_any w1.heap.size 0 gdNums3 r _ (w1.alloc (.cells (intC gdNums3) 3)) (R1.out.onto ((Below.refl _ _).alloc (Nat.le_refl _) _)) (by omega) (by decide) (by decide) (ints_new _ _ _ _ R1.out.lt)
    refine hN.mono ?_
    rintro e w2 ⟨n1, hz, rfl, hR, hO⟩
    have R2 := hidH hR
    have O2 := hidH (O1.out.trans (((Onto.refl _ _).alloc (.cells (intC gdNums3) 3)).trans hO))
    have hz_n1 := hz
    clear hN hz hR hO
    go_wp2_with fail
    refine (pick_any 3 r _ w2 R2.out (by omega)).mono ?_
    rintro e w3 ⟨n2, rfl, n20, n21, hR, hO⟩
    have R3 := hidH hR
    have O3 := hidH (O2.out.trans hO)
    clear n20 n21 hR hO
    go_wp2_with fail
    go_ret2
    exact ⟨_, _, rfl, by simp [gdNums3] at hz_n1; omega, by simp [gdNums3] at hz_n1; omega, R3.out.more (by omega), O3.out⟩
set_option maxHeartbeats 800000 in
theorem number6_any (r B : Nat) (w : World) (h : Rd w r B) (hB : B ≤ 800000) : Calls Try.prog 32 #[.pointer (some ⟨r, 0, none⟩)] w (NumR r B w) := by
  have R0 := hidH h
  have hr0 := h.lt
  have O0 := hidH (Onto.refl r w)
  clear h
  go_enter Try.func32, Try.ntmps32
  go_wp2_with fail
  refine (pick_any 8 r _ w R0.out (by omega)).mono ?_
  rintro e w1 ⟨x, rfl, x0, x1, hR, hO⟩
  have R1 := hidH hR
  have O1 := hidH (O0.out.trans hO)
  clear x0 x1 hR hO
  by_cases e1 : x = 0
  · have b1 : (x == 0) = true := beq_iff_eq.2 e1
    clear e1
    go_wp2_with fail
    have hN := num_any w1.heap.size 0 nbNums r _ (w1.alloc (.cells (intC nbNums) 3)) (R1.out.onto ((Below.refl _ _).alloc (Nat.le_refl _) _)) (by omega) (by decide) (by decide) (ints_new _ _ _ _ R1.out.lt)
    refine hN.mono ?_
    rintro e w2 ⟨n1, hz, rfl, hR, hO⟩
    have R2 := hidH hR
    have O2 := hidH (O1.out.trans (((Onto.refl _ _).alloc (.cells (intC nbNums) 3)).trans hO))
    clear hN hz hR hO
    go_wp2_with fail
    go_ret
    exact ⟨_, rfl, R2.out.more (by omega), O2.out⟩
  · have b1 : (x == 0) = false := beq_eq_false_iff_ne.2 e1
    clear e1
    by_cases e2 : x = 1
    · have b2 : (x == 1) = true := beq_iff_eq.2 e2
      clear e2
      go_wp2_with fail
      refine (pick_any 256 r _ w1 R1.out (by omega)).mono ?_
      rintro e w2 ⟨y, rfl, y0, y1, hR, hO⟩
      have R2 := hidH hR
      have O2 := hidH (O1.out.trans hO)
      clear y0 y1 hR hO
      go_wp2_with fail
      refine (pick_any 256 r _ w2 R2.out (by omega)).mono ?_
      rintro e w3 ⟨z, rfl, z0, z1, hR, hO⟩
      have R3 := hidH hR
      have O3 := hidH (O2.out.trans hO)
      clear z0 z1 hR hO
      go_wp2_with fail
      go_ret
      exact ⟨_, rfl, R3.out.more (by omega), O3.out⟩
    · have b2 : (x == 1) = false := beq_eq_false_iff_ne.2 e2
      clear e2
      by_cases e3 : x = 2
      · have b3 : (x == 2) = true := beq_iff_eq.2 e3
        clear e3
        go_wp2_with fail
        refine (pick_any 40 r _ w1 R1.out (by omega)).mono ?_
        rintro e w2 ⟨y, rfl, y0, y1, hR, hO⟩
        have R2 := hidH hR
        have O2 := hidH (O1.out.trans hO)
        clear y0 y1 hR hO
        go_wp2_with fail
        go_ret
        exact ⟨_, rfl, R2.out.more (by omega), O2.out⟩
      · have b3 : (x == 2) = false := beq_eq_false_iff_ne.2 e3
        clear e3
        go_wp2_with fail
        refine (pick_any 256 r _ w1 R1.out (by omega)).mono ?_
        rintro e w2 ⟨y, rfl, y0, y1, hR, hO⟩
        have R2 := hidH hR
        have O2 := hidH (O1.out.trans hO)
        clear y0 y1 hR hO
        go_wp2_with fail
        refine (pick_any 256 r _ w2 R2.out (by omega)).mono ?_
        rintro e w3 ⟨z, rfl, z0, z1, hR, hO⟩
        have R3 := hidH hR
        have O3 := hidH (O2.out.trans hO)
        clear z0 z1 hR hO
        go_wp2_with fail
        refine (pick_any 20 r _ w3 R3.out (by omega)).mono ?_
        rintro e w4 ⟨t, rfl, t0, t1, hR, hO⟩
        have R4 := hidH hR
        have O4 := hidH (O3.out.trans hO)
        clear t0 t1 hR hO
        go_wp2_with fail
        refine (pick_any 256 r _ w4 R4.out (by omega)).mono ?_
        rintro e w5 ⟨s, rfl, s0, s1, hR, hO⟩
        have R5 := hidH hR
        have O5 := hidH (O4.out.trans hO)
        clear s0 s1 hR hO
        go_wp2_with fail
        go_ret
        exact ⟨_, rfl, R5.out.more (by omega), O5.out⟩
set_option maxHeartbeats 800000 in
theorem drawRoundEntry (a : Option Addr) (len cap : Nat) (w : World) (hc : Came w a len cap) (hl : len ≤ 1048576) : Calls Try.prog 10 #[.slice a len cap] w (DrawN3 w) := by
  have HO := hidH (opened_any a len cap w hc hl)
  clear hc
  go_enter Try.func10, Try.ntmps10
  go_wp2_with fail
  refine HO.out.mono ?_
  rintro e w1 ⟨rfl, hR, hB⟩
  have R1 := hidH hR
  have B1 := hidH hB
  have s1 := hB.size
  have hr1 := hR.lt
  have O1 := hidH (Onto.refl w.heap.size w1)
  clear hR hB HO
  go_wp2_with fail
  refine (guard6_any w.heap.size _ w1 R1.out (by omega)).mono ?_
  rintro e w2 ⟨n1, n2, rfl, n1a, n1b, hR, hO⟩
  have R2 := hidH hR
  have O2 := hidH (O1.out.trans hO)
  clear hR hO
  go_wp2_with fail
  refine (number6_any w.heap.size _ w2 R2.out (by omega)).mono ?_
  rintro e w3 ⟨n3, rfl, hR, hO⟩
  have R3 := hidH hR
  have O3 := hidH (O2.out.trans hO)
  clear hR hO
  go_wp2_with fail
  go_ret3
  exact ⟨_, _, _, rfl, n1a, n1b, B1.out.trans (O3.out.below (Nat.le_refl _) s1)⟩
end Go.Proofs.Ytnndeiiolnefkaa
