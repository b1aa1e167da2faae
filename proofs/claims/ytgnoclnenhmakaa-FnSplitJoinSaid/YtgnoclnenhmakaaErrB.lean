/-
  ErrorPattern: the program and the model, at every argument. No conditions.
  PutError: the program and the model, at every argument. No conditions but that slices fit in memory.
  SlipEffect: the program and the model, at every argument. No conditions.
-/
import Derived.Test.YtgnoclnenhmakaaErrA
import Derived.Test.YtgnoclnenhmakaaPolyT
namespace Go.Proofs.Ytgnoclnenhmakaa
set_option maxRecDepth 4000
open Go.RowKit
theorem binom7_any (o : Nat) (ho : o ≤ 7) (k : Nat) (hk : k ≤ 8) (w : World) : Calls Try.prog 106 #[.int .i64 o, .int .i64 k] w fun e w' => e = .returned (.int .i64 (chN (o : Nat) k)) ∧ w = w' := by
  go_enter Try.func106, Try.ntmps106
  go_wp2
  go_loop [5, 8] (fun p i => ∃ j : Nat, j ≤ k ∧ i = .int .i64 j ∧ p = .int .i64 (chN (o : Nat) j)) (fun _ i => k - (intOf i).toNat)
  case atStart => exact ⟨0, Nat.zero_le _, rfl, rfl⟩
  case round =>
    obtain ⟨j, hj, rfl, rfl⟩ := hrel
    by_cases hlt : j < k
    · have ⟨b1, b2⟩ := chN_small_mul o (by omega) j (by omega)
      have ⟨b3, b4⟩ := chN_small o (by omega) j (by omega)
      have ⟨b5, b6⟩ := chN_small o (by omega) (j + 1) (by omega)
      go_wp2
      go_round
      case rel => exact ⟨j + 1, by omega, by go_num, by rw [chN]⟩
      case measure => simp [intOf]; omega
    · go_wp2
      obtain rfl : j = k := by omega
      go_ret
      exact ⟨rfl, rfl⟩
theorem sChoose7_any (o : Nat) (ho : o ≤ 7) (k : Nat) (hk : k ≤ 8) (w : World) : Calls Try.prog 103 #[.int .i64 o, .int .i64 k] w fun e w' => e = .returned (.int .i64 (chN (o : Nat) k)) ∧ w = w' := by
  go_enter Try.func103, Try.ntmps103
  go_wp2
  go_loop [5, 6] (fun p i => ∃ j : Nat, j ≤ k ∧ i = .int .i64 j ∧ p = .int .i64 (chN (o : Nat) j)) (fun _ i => k - (intOf i).toNat)
  case atStart => exact ⟨0, Nat.zero_le _, rfl, rfl⟩
  case round =>
    obtain ⟨j, hj, rfl, rfl⟩ := hrel
    by_cases hlt : j < k
    · have ⟨b1, b2⟩ := chN_small_mul o (by omega) j (by omega)
      have ⟨b3, b4⟩ := chN_small o (by omega) j (by omega)
      have ⟨b5, b6⟩ := chN_small o (by omega) (j + 1) (by omega)
      go_wp2
      go_round
      case rel => exact ⟨j + 1, by omega, by go_num, by rw [chN]⟩
      case measure => simp [intOf]; omega
    · go_wp2
      obtain rfl : j = k := by omega
      go_ret
      exact ⟨rfl, rfl⟩
theorem fillp_set (o : Nat) (a m c : Int) (k : Nat) (hk : k ≤ o) (hm : m = sg k * a) (hc : c = chN (o : Nat) k) : (fill (patL o a) k).set k (m * c) = fill (patL o a) (k + 1) := by
  subst hm; subst hc
  exact fill_set _ k _ (by rw [patL_get o a k hk, Int.mul_assoc, Int.mul_assoc, Int.mul_comm a])
end Go.Proofs.Ytgnoclnenhmakaa
namespace Go.Proofs.Ytgnoclnenhmakaa
set_option maxRecDepth 4000
open Go.RowKit
/-- An entry that a table has. -/
def atOk (zs : List Int) (k : Int) : Bool := decide (0 ≤ k ∧ k < zs.length)
/-- An entry of a list with an amount added. -/
def putL (zs : List Int) (k : Nat) (a : Int) : List Int := zs.set k (zs.getD k 0 + a)
theorem putL_length (zs : List Int) (k : Nat) (a : Int) : (putL zs k a).length = zs.length := by simp [putL]
theorem getD_of {zs : List Int} {k : Nat} {z : Int} (h : zs[k]? = some z) : zs.getD k 0 = z := by rw [List.getD_eq_getElem?_getD, h]; rfl
def putOk (zs : List Int) (k a : Int) : Bool := tableOk zs && (atOk zs k && (inB 1000000000 a && inB 1000000000 (zs.getD k.toNat 0 + a)))
/-- What PutError answers. -/
def putA (zs : List Int) (k a : Int) : List Int := if putOk zs k a then putL zs k.toNat a else []
theorem putA_len (zs : List Int) (k a : Int) : (putA zs k a).length ≤ 1048576 := by
  unfold putA
  split
  · rename_i h
    simp only [putOk, Bool.and_eq_true] at h
    have := tableOk_len _ h.1
    rw [putL_length]; omega
  · simp
theorem tab_bd {zs : List Int} (h : tableOk zs = true) {k : Nat} {z : Int} (hz : zs[k]? = some z) : -1000000000 ≤ z ∧ z ≤ 1000000000 := ((listOk_iff _ _ _).1 h).2.2 z (List.mem_of_getElem? hz)
theorem tab_put (zs : List Int) (k : Nat) (a z : Int) (h : tableOk zs = true) (hz : zs[k]? = some z) : tableOk (putL zs k a) = inB 1000000000 (z + a) := by
  have hk := (List.getElem?_eq_some_iff.1 hz).1
  have ⟨h1, h2, h3⟩ := (listOk_iff _ _ _).1 h
  rw [Bool.eq_iff_iff]
  unfold tableOk
  rw [listOk_iff, putL_length, putL, getD_of hz, inB, decide_eq_true_eq]
  constructor
  · intro ⟨_, _, h⟩
    exact h _ (List.mem_of_getElem? (by rw [List.getElem?_set, if_pos rfl, if_pos hk]))
  · intro hb
    refine ⟨h1, h2, fun x hx => ?_⟩
    rcases List.mem_or_eq_of_mem_set hx with hx | rfl
    · exact h3 x hx
    · exact hb
def sAtOk (zs : List Int) (k : Int) : Bool := decide (0 ≤ k ∧ k ≤ (zs.length : Int) - 1)
theorem sAtOk_eq (zs : List Int) (k : Int) : sAtOk zs k = atOk zs k := by
  unfold sAtOk atOk
  rw [Bool.eq_iff_iff, decide_eq_true_eq, decide_eq_true_eq]; omega
end Go.Proofs.Ytgnoclnenhmakaa
namespace Go.Proofs.Ytgnoclnenhmakaa
set_option maxRecDepth 4000
open Go.RowKit
/-- The numbers of a slip. -/
def colOk4 (c : Int) : Bool := decide (0 ≤ c ∧ c ≤ 6)
def trnOk (t : Int) : Bool := decide (0 ≤ t ∧ t ≤ 59)
def cntOk4 (c : Int) : Bool := decide (0 ≤ c ∧ c ≤ 60)
def slipOk (c t a : Int) : Bool := colOk4 c && (trnOk t && inB 100000 a)
/-- By how much the result with the index n is wrong. -/
def effN (c t : Nat) (a : Int) (n : Nat) : Int := if n < t then 0 else a * chN ((n - t : Nat) : Int) c
def effL (c t : Nat) (a : Int) (count : Nat) : List Int := (List.range count).map (effN c t a)
theorem effL_length (c t : Nat) (a : Int) (n : Nat) : (effL c t a n).length = n := by simp [effL]
theorem effL_get (c t : Nat) (a : Int) (n k : Nat) (h : k < n) : (effL c t a n)[k]? = some (effN c t a k) := by simp [effL, h]
theorem effL_snoc (c t : Nat) (a : Int) (n : Nat) : effL c t a (n + 1) = effL c t a n ++ [effN c t a n] := by simp [effL, List.range_succ]
def effOk (c t a n : Int) : Bool := slipOk c t a && cntOk4 n
def effA (c t a n : Int) : List Int := if effOk c t a n then effL c.toNat t.toNat a n.toNat else []
theorem effA_len (c t a n : Int) : (effA c t a n).length ≤ 1048576 := by
  unfold effA
  split
  · rename_i h
    simp only [effOk, Bool.and_eq_true] at h
    have := of_decide_eq_true h.2
    rw [effL_length]; omega
  · simp
theorem eff_bd (c t : Nat) (hc : c ≤ 6) (a : Int) (ha : -100000 ≤ a ∧ a ≤ 100000) (n : Nat) (hn : n ≤ 100) (ht : t ≤ n) : -200000000000000000 ≤ a * chN ((n - t : Nat) : Int) c ∧ a * chN ((n - t : Nat) : Int) c ≤ 200000000000000000 := by
  have ⟨h1, h2⟩ := chN_bd ((n - t : Nat) : Int) (by omega) (by omega) c hc
  have := abs_mul_le (a := a) (b := chN ((n - t : Nat) : Int) c) (A := 100000) (B := 1200000000000) (by omega) (by omega)
  omega
theorem slip_bd {c t a : Int} (h : slipOk c t a = true) : 0 ≤ c ∧ c ≤ 6 ∧ 0 ≤ t ∧ t ≤ 59 ∧ -100000 ≤ a ∧ a ≤ 100000 := by
  simp only [slipOk, Bool.and_eq_true] at h
  obtain ⟨h1, h2, h3⟩ := h
  have := of_decide_eq_true h1; have := of_decide_eq_true h2; have := of_decide_eq_true h3
  omega
end Go.Proofs.Ytgnoclnenhmakaa
