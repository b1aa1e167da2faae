/-
  CleanTable: the program and the model, at every argument. No conditions but that slices fit in memory.
-/
import Derived.Test.YtgnoclnenhmakaaErrMath
namespace Go.Proofs.Ytgnoclnenhmakaa
set_option maxRecDepth 4000
open Go.RowKit
theorem degValid_any (d : Int) (w : World) : Calls Try.prog 39 #[.int .i64 d] w fun e w' => e = .returned (.bool (degOk d)) ∧ w = w' := by
  cases h : degOk d
  · have h := of_decide_eq_false h
    by_cases a : d < 0
    · clear h
      go_enter Try.func39, Try.ntmps39
      go_wp2
      go_ret
      exact ⟨rfl, rfl⟩
    · have b : 6 < d := by omega
      have c : decide (d ≤ 6) = false := decide_eq_false (by omega)
      clear h
      go_enter Try.func39, Try.ntmps39
      go_wp2
      go_ret
      exact ⟨rfl, rfl⟩
  · have ⟨a, b⟩ := of_decide_eq_true h
    have c : decide (d ≤ 6) = true := decide_eq_true b
    clear h
    go_enter Try.func39, Try.ntmps39
    go_wp2
    go_ret
    exact ⟨rfl, rfl⟩
theorem sDeg4_any (d : Int) (w : World) : Calls Try.prog 71 #[.int .i64 d] w fun e w' => e = .returned (.bool (degOk d)) ∧ w = w' := by
  go_enter Try.func71, Try.ntmps71
  go_wp2_with (go_at_call 60; refine (sIn_any _ _ _ (degOk d) rfl _).mono ?_; rintro e w' ⟨rfl, rfl⟩)
  go_ret
  exact ⟨rfl, rfl⟩
/-- A call that answers a slice of numbers. -/
def LiesTo (zs : List Int) (w : World) (e : Ending) (w' : World) : Prop := ∃ v, e = .returned v ∧ Lies w' 0 w'.heap.size v zs ∧ Below w.heap.size w w'
theorem taken_any (v : Value) (zs : List Int) (t : Nat) (w : World) (lo hi : Nat) (hv : Lies w lo hi v zs) (ht : t ≤ zs.length) (hn : zs.length ≤ 1048576) : Calls Try.prog 68 #[v, .int .i64 t] w (LiesTo (difN t zs) w) := by
  have HV := hidH hv.top
  clear hv
  go_enter Try.func68, Try.ntmps68
  go_wp2_with fail
  go_loopw [5, 8] (fun vs i wr => ∃ (j : Nat) (cv : Value), j ≤ t ∧ i = .int .i64 j ∧ cv = vs ∧ Lies wr 0 wr.heap.size cv (difN j zs) ∧ Below w.heap.size w wr) (fun _ i _ => t - (intOf i).toNat)
  case atStart => exact ⟨0, v, by omega, rfl, rfl, HV.out, Below.refl _ _⟩
  case round =>
    obtain ⟨j, cv, hj, rfl, rfl, hl, hb⟩ := hrel
    have HB := hidH hb
    by_cases hlt : j < t
    · have hlen : (difN j zs).length = zs.length - j := difN_length j zs
      obtain ⟨x, ys, hxy⟩ : ∃ x ys, difN j zs = x :: ys := by
        cases e : difN j zs with
        | nil => rw [e] at hlen; simp at hlen; omega
        | cons x ys => exact ⟨x, ys, rfl⟩
      rw [hxy] at hl hlen
      have hyl : ys.length ≤ 1048576 := by simp at hlen; omega
      have HD := hidH (show difN (j + 1) zs = difW (x :: ys) by rw [difN_snoc, hxy])
      have HK := hidH (diffs_any cv x ys wr _ _ hl hyl)
      clear hl hb hxy hlen
      go_wp2_with fail
      refine HK.out.mono ?_; rintro e w3 ⟨v3, rfl, hr3, hb3⟩
      have HR3 := hidH hr3
      have HB3 := hidH (HB.out.trans (hb3.mono HB.out.size))
      clear hr3 hb3
      go_wp2_with fail
      go_roundw
      case rel => exact ⟨j + 1, v3, by omega, by go_num, rfl, by rw [HD.out]; exact HR3.out.lies.mono (Nat.zero_le _) (Nat.le_refl _), HB3.out⟩
      case measure => simp [intOf]; omega
    · obtain rfl : j = t := by omega
      have HL := hidH hl
      clear hl hb
      go_wp2_with fail
      go_ret
      exact ⟨cv, rfl, HL.out, HB.out⟩
theorem clean_any (v0 : Value) (zs0 : List Int) (n1 : Int) (w : World) (lo0 hi0 : Nat) (hv0 : Lies w lo0 hi0 v0 zs0) : Calls Try.prog 78 #[v0, .int .i64 n1] w (Gives (.bool (cleanB zs0 n1)) w) := by
  have HK := hidH (least_any v0 zs0 w lo0 hi0 hv0)
  have ⟨hl1, hl2, _, _⟩ := least_ge zs0
  rw [cleanB_eq]
  clear hv0
  generalize leastL zs0 = l at *
  cases hd : degOk n1
  · have HD := hidH hd
    rw [Bool.false_and]
    clear hd
    go_enter Try.func78, Try.ntmps78
    go_wp2_with fail
    refine HK.out.mono ?_; rintro e w1 ⟨rfl, hb⟩
    have HB := hidH hb
    clear hb
    go_wp2_with fail
    refine (degValid_any n1 _).mono ?_; rintro e w_ ⟨rfl, rfl⟩
    rw [HD.out]
    go_wp2_with fail
    go_ret
    exact ⟨rfl, HB.out⟩
  · have HD := hidH hd
    rw [Bool.true_and]
    clear hd
    by_cases h1 : -1 ≤ l
    · rw [decide_eq_true h1, Bool.true_and]
      go_enter Try.func78, Try.ntmps78
      go_wp2_with fail
      refine HK.out.mono ?_; rintro e w1 ⟨rfl, hb⟩
      have HB := hidH hb
      clear hb
      go_wp2_with fail
      refine (degValid_any n1 _).mono ?_; rintro e w_ ⟨rfl, rfl⟩
      rw [HD.out]
      go_wp2_with fail
      go_ret
      exact ⟨rfl, HB.out⟩
    · rw [decide_eq_false h1, Bool.false_and]
      have h1' : l < -1 := by omega
      clear h1
      go_enter Try.func78, Try.ntmps78
      go_wp2_with fail
      refine HK.out.mono ?_; rintro e w1 ⟨rfl, hb⟩
      have HB := hidH hb
      clear hb
      go_wp2_with fail
      refine (degValid_any n1 _).mono ?_; rintro e w_ ⟨rfl, rfl⟩
      rw [HD.out]
      go_wp2_with fail
      go_ret
      exact ⟨rfl, HB.out⟩
end Go.Proofs.Ytgnoclnenhmakaa
