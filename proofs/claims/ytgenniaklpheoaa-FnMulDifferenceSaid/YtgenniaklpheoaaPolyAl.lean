/-
  The mathematics of the laws of chapter 2 about products, every m-th value and values backwards. No conditions but bounds of numbers.
-/
import Derived.Test.YtgenniaklpheoaaPolyFa
import Derived.Test.YtgenniaklpheoaaPolyFc
import Derived.Test.YtgenniaklpheoaaPolyLc
import Derived.Test.YtgenniaklpheoaaPolyNewton
namespace Go.Proofs.Ytgenniaklpheoaa
open Go.RowKit
theorem Small.ofOk {zs : List Int} (h : polyOk zs = true) : Small zs := (polyOk_small _ h).2
/-! ### Every value -/
theorem every_newt (zs : List Int) (s : Int) (hs : Small zs) (h1 : -1 ≤ s) (h2 : s ≤ 10) : everyL zs s = newt zs.length (fun n => evP zs (s * n)) := by
  have h7 := hs.1
  have e : valsS zs 0 s zs.length = valsF (fun n => evP zs (s * n)) 0 zs.length := by
    unfold valsS valsF
    refine List.map_congr_left fun i _ => ?_
    show evP zs (0 + s * i) = evP zs (s * (0 + i))
    rw [Int.zero_add, Int.zero_add]
  rw [everyL, e]
  refine lead_newt zs.length _ 84000000000000 (fun i hi => hs.abs60 _ ?_) ?_
  · rw [Int.natAbs_mul]
    exact Nat.le_trans (Nat.mul_le_mul (show s.natAbs ≤ 10 by omega) (show (i : Int).natAbs ≤ 6 by omega)) (by decide)
  · have : 2 ^ zs.length ≤ 2 ^ 7 := Nat.pow_le_pow_right (by decide) h7
    omega
theorem every_length (zs : List Int) (s : Int) : (everyL zs s).length = zs.length := leadW_length _ _
theorem every_ev (zs : List Int) (m : Int) (hs : Small zs) (h1 : 0 ≤ m) (h2 : m ≤ 10) (n : Int) : evP (everyL zs m) n = evP zs (m * n) := by
  rw [every_newt zs m hs (by omega) h2]
  obtain ⟨k, rfl⟩ := Int.eq_ofNat_of_zero_le h1
  exact newt_eq zs.length _ (top_congr (top_every (top_ev zs) k 0) fun n => by rw [Int.add_zero]) n
theorem turn_ev (zs : List Int) (hs : Small zs) (n : Int) : evP (everyL zs (-1)) n = evP zs (-n) := by
  rw [every_newt zs (-1) hs (by omega) (by omega)]
  have := newt_eq zs.length (fun n => evP zs (-1 * n)) (top_congr (top_back (top_ev zs) 0) fun n => by rw [Int.add_zero, show -1 * n = -n by omega]) n
  rw [this, show -1 * n = -n by omega]
theorem turn_turn (zs : List Int) (hs : Small zs) (ht : Small (everyL zs (-1))) : everyL (everyL zs (-1)) (-1) = zs :=
  ev_inj (by rw [every_length, every_length]) fun n => by rw [turn_ev _ ht, turn_ev zs hs, Int.neg_neg]
theorem every_one (zs : List Int) (hs : Small zs) : everyL zs 1 = zs :=
  ev_inj (every_length _ _) fun n => by rw [every_ev zs 1 hs (by omega) (by omega), Int.one_mul]
theorem step_ways (zs : List Int) (m : Int) : (stepB zs m = true ∧ polyOk zs = true ∧ 1 ≤ m ∧ m ≤ 10 ∧ polyOk (everyL zs m) = true ∧ stepA zs m = everyL zs m) ∨ stepB zs m = false := by
  unfold stepB stepA
  cases h : polyOk zs
  · exact .inr rfl
  · cases h2 : stepOk m
    · exact .inr rfl
    · have hb := of_decide_eq_true h2
      cases h3 : polyOk (everyL zs m)
      · exact .inr rfl
      · exact .inl ⟨rfl, rfl, hb.1, hb.2, rfl, by show resL _ = _; rw [resL, h3]; rfl⟩
theorem turn_ways (zs : List Int) : (turnB zs = true ∧ polyOk zs = true ∧ polyOk (everyL zs (-1)) = true ∧ turnA zs = everyL zs (-1)) ∨ turnB zs = false := by
  unfold turnB turnA
  cases h : polyOk zs
  · exact .inr rfl
  · cases h3 : polyOk (everyL zs (-1))
    · exact .inr rfl
    · exact .inl ⟨rfl, rfl, rfl, by show resL _ = _; rw [resL, h3]; rfl⟩
theorem step_val (zs : List Int) (m n : Int) (hz : polyOk zs = true) (hq : polyOk (everyL zs m) = true) (h1 : 1 ≤ m) (h2 : m ≤ 10) (n1 : -8 ≤ n) (n2 : n ≤ 8) : evA (everyL zs m) n = evA zs (m * n) := by
  have hb : (m * n).natAbs ≤ 10 * 8 := by rw [Int.natAbs_mul]; exact Nat.mul_le_mul (show m.natAbs ≤ 10 by omega) (show n.natAbs ≤ 8 by omega)
  rw [evA_ok _ _ hq (by omega) (by omega), evA_ok _ _ hz (by omega) (by omega), every_ev zs m (Small.ofOk hz) (by omega) h2]
theorem turn_val (zs : List Int) (n : Int) (hz : polyOk zs = true) (hq : polyOk (everyL zs (-1)) = true) (n1 : -8 ≤ n) (n2 : n ≤ 8) : evA (everyL zs (-1)) n = evA zs (-n) := by
  rw [evA_ok _ _ hq (by omega) (by omega), evA_ok _ _ hz (by omega) (by omega), turn_ev zs (Small.ofOk hz)]
theorem turn_back (zs : List Int) (hz : polyOk zs = true) (hq : polyOk (everyL zs (-1)) = true) : turnA (everyL zs (-1)) = zs ∧ turnB (everyL zs (-1)) = true := by
  have e := turn_turn zs (Small.ofOk hz) (Small.ofOk hq)
  unfold turnA turnB
  rw [e, hq, hz]
  exact ⟨by show resL _ = _; rw [resL, hz]; rfl, rfl⟩
/-! ### Products -/
theorem mul_newt (zs ys : List Int) (hz : Small zs) (hy : Small ys) (hl : zs.length + ys.length ≤ 8) : mulL zs ys = newt (zs.length + ys.length - 1) (fun n => evP zs n * evP ys n) := by
  have e : mulV zs ys (zs.length + ys.length - 1) = valsF (fun n => evP zs n * evP ys n) 0 (zs.length + ys.length - 1) := by
    unfold mulV valsF
    refine List.map_congr_left fun i _ => ?_
    show _ = evP zs (0 + i) * evP ys (0 + i)
    rw [Int.zero_add]
  rw [mulL, e]
  refine lead_newt _ _ 196000000000000 (fun i hi => ?_) ?_
  · have := prod_bd hz hy i (by omega)
    omega
  · have : 2 ^ (zs.length + ys.length - 1) ≤ 2 ^ 7 := Nat.pow_le_pow_right (by decide) (by omega)
    omega
theorem mul_ev (zs ys : List Int) (hz : Small zs) (hy : Small ys) (hl : zs.length + ys.length ≤ 8) (z1 : 1 ≤ zs.length) (y1 : 1 ≤ ys.length) (n : Int) : evP (mulL zs ys) n = evP zs n * evP ys n := by
  rw [mul_newt zs ys hz hy hl]
  obtain ⟨a, ha⟩ : ∃ a, zs.length = a + 1 := ⟨zs.length - 1, by omega⟩
  obtain ⟨b, hb⟩ : ∃ b, ys.length = b + 1 := ⟨ys.length - 1, by omega⟩
  have h1 := top_ev zs
  have h2 := top_ev ys
  rw [ha] at h1
  rw [hb] at h2
  rw [ha, hb, show a + 1 + (b + 1) - 1 = a + b + 1 by omega]
  exact newt_eq _ _ (top_mul_zero h1 h2) n
theorem mulL_length (zs ys : List Int) : (mulL zs ys).length = zs.length + ys.length - 1 := leadW_length _ _
theorem mul_ways (zs ys : List Int) : (mulB zs ys = true ∧ polyOk zs = true ∧ polyOk ys = true ∧ zs.length + ys.length ≤ 8 ∧ polyOk (mulL zs ys) = true ∧ mulA zs ys = mulL zs ys) ∨ mulB zs ys = false := by
  unfold mulB mulA
  cases h : polyOk zs
  · exact .inr rfl
  · cases h2 : polyOk ys
    · exact .inr rfl
    · cases h3 : mulOk zs ys
      · exact .inr rfl
      · have hb := of_decide_eq_true h3
        cases h4 : polyOk (mulL zs ys)
        · exact .inr rfl
        · exact .inl ⟨rfl, rfl, rfl, hb, rfl, by show resL _ = _; rw [resL, h4]; rfl⟩
theorem mul_val (zs ys : List Int) (n : Int) (hz : polyOk zs = true) (hy : polyOk ys = true) (hl : zs.length + ys.length ≤ 8) (hm : polyOk (mulL zs ys) = true) (n1 : -200 ≤ n) (n2 : n ≤ 200) : evA (mulL zs ys) n = evA zs n * evA ys n := by
  rw [evA_ok _ _ hm n1 n2, evA_ok _ _ hz n1 n2, evA_ok _ _ hy n1 n2]
  have ⟨z1, hs⟩ := polyOk_small _ hz
  have ⟨y1, hs2⟩ := polyOk_small _ hy
  exact mul_ev zs ys hs hs2 hl (by omega) (by omega) n
theorem mul_diff (zs ys : List Int) (n : Int) (hz : polyOk zs = true) (hy : polyOk ys = true) (hl : zs.length + ys.length ≤ 8) (hm : polyOk (mulL zs ys) = true) (n1 : -200 ≤ n) (n2 : n < 200) : evA (diffA (mulL zs ys)) n = evA zs (n + 1) * evA (diffA ys) n + evA (diffA zs) n * evA ys n := by
  have a := diff_law (mulL zs ys) n hm n1 n2
  have b := diff_law zs n hz n1 n2
  have c := diff_law ys n hy n1 n2
  rw [mul_val zs ys (n + 1) hz hy hl hm (by omega) (by omega), mul_val zs ys n hz hy hl hm n1 (by omega)] at a
  have e : evA (diffA (mulL zs ys)) n = evA zs (n + 1) * evA ys (n + 1) - evA zs n * evA ys n := by omega
  have e1 : evA (diffA zs) n = evA zs (n + 1) - evA zs n := by omega
  have e2 : evA (diffA ys) n = evA ys (n + 1) - evA ys n := by omega
  rw [e, e1, e2, Int.mul_sub, Int.sub_mul]
  omega
theorem mul_comm (zs ys : List Int) : mulL zs ys = mulL ys zs ∧ mulA zs ys = mulA ys zs ∧ mulB zs ys = mulB ys zs := by
  have e : mulL zs ys = mulL ys zs := by
    unfold mulL mulV
    rw [Nat.add_comm ys.length]
    congr 1
    exact List.map_congr_left fun i _ => Int.mul_comm _ _
  have eo : mulOk zs ys = mulOk ys zs := by unfold mulOk; rw [Nat.add_comm]
  refine ⟨e, ?_, ?_⟩
  · unfold mulA; rw [e, eo, Bool.and_comm (polyOk zs)]
  · unfold mulB; rw [e, eo, Bool.and_comm (polyOk zs)]
theorem wrap_sum (a b : Int) : IntKind.i64.wrap (IntKind.i64.wrap a + IntKind.i64.wrap b) = IntKind.i64.wrap (a + b) := by
  rw [wrap_i, wrap_i, wrap_i, wrap_i]; unfold wrap64; omega
theorem wrap_evA (zs : List Int) (n : Int) : IntKind.i64.wrap (evA zs n) = evA zs n := by
  have := evA_bd zs n
  exact IntWalk.i64_in _ (by omega)
end Go.Proofs.Ytgenniaklpheoaa
