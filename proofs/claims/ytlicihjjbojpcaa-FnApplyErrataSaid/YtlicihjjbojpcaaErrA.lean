/-
  CleanTable: the program and the model, at every argument. No conditions but that slices fit in memory.
-/
import Derived.Test.YtlicihjjbojpcaaErrMath
namespace Go.Proofs.Ytlicihjjbojpcaa
set_option maxRecDepth 4000
open Go.RowKit
theorem degValid_any (d : Int) (w : World) : Calls Try.prog 38 #[.int .i64 d] w fun e w' => e = .returned (.bool (degOk d)) ∧ w = w' := by
  cases h : degOk d
  · have h := of_decide_eq_false h
    by_cases a : d < 0
    · clear h
      go_enter Try.func38, Try.ntmps38
      go_wp2
      go_ret
      exact ⟨rfl, rfl⟩
    · have b : 6 < d := by omega
      have c : decide (d ≤ 6) = false := decide_eq_false (by omega)
      clear h
      go_enter Try.func38, Try.ntmps38
      go_wp2
      go_ret
      exact ⟨rfl, rfl⟩
  · have ⟨a, b⟩ := of_decide_eq_true h
    have c : decide (d ≤ 6) = true := decide_eq_true b
    clear h
    go_enter Try.func38, Try.ntmps38
    go_wp2
    go_ret
    exact ⟨rfl, rfl⟩
theorem sDeg4_any (d : Int) (w : World) : Calls Try.prog 47 #[.int .i64 d] w fun e w' => e = .returned (.bool (degOk d)) ∧ w = w' := by
  go_enter Try.func47, Try.ntmps47
  go_wp2_with (go_at_call 58; refine (sIn_any _ _ _ (degOk d) rfl _).mono ?_; rintro e w' ⟨rfl, rfl⟩)
  go_ret
  exact ⟨rfl, rfl⟩
/-- A call that answers a slice of numbers. -/
def LiesTo (zs : List Int) (w : World) (e : Ending) (w' : World) : Prop := ∃ v, e = .returned v ∧ Lies w' 0 w'.heap.size v zs ∧ Below w.heap.size w w'
theorem sRow4_any (v : Value) (zs : List Int) (t : Nat) (w : World) (lo hi : Nat) (hv : Lies w lo hi v zs) (ht : t ≤ 8) (hn : zs.length ≤ 1048576) : Calls Try.prog 48 #[v, .int .i64 t] w (LiesTo (difN t zs) w) := by
  have HV := hidH hv.top
  clear hv
  go_enter Try.func48, Try.ntmps48
  go_wp2_with fail
  go_loopw [5, 6] (fun vs i wr => ∃ (j : Nat) (cv : Value), j ≤ t ∧ i = .int .i64 j ∧ cv = vs ∧ Lies wr 0 wr.heap.size cv (difN j zs) ∧ Below w.heap.size w wr) (fun _ i _ => t - (intOf i).toNat)
  case atStart => exact ⟨0, v, by omega, rfl, rfl, HV.out, Below.refl _ _⟩
  case round =>
    obtain ⟨j, cv, hj, rfl, rfl, hl, hb⟩ := hrel
    have HL := hidH hl
    have HB := hidH hb
    clear hl hb
    by_cases hlt : j < t
    · have hlen : (difN j zs).length ≤ 1048576 := by have := difN_length j zs; omega
      go_wp2_with fail
      refine (sNext_any _ (difN j zs) _ _ _ HL.out hlen).mono ?_; rintro e w3 ⟨v3, rfl, hr3, hb3⟩
      have HR3 := hidH hr3
      have HB3 := hidH (HB.out.trans (hb3.mono HB.out.size))
      clear hr3 hb3 hlen
      go_wp2_with fail
      go_roundw
      case rel => exact ⟨j + 1, v3, by omega, by go_num, rfl, by rw [difN_snoc]; exact HR3.out.lies.mono (Nat.zero_le _) (Nat.le_refl _), HB3.out⟩
      case measure => simp [intOf]; omega
    · obtain rfl : j = t := by omega
      go_wp2_with fail
      go_ret
      exact ⟨cv, rfl, HL.out, HB.out⟩
theorem taken_any (v : Value) (zs : List Int) (t : Nat) (w : World) (lo hi : Nat) (hv : Lies w lo hi v zs) (ht : t ≤ zs.length) (hn : zs.length ≤ 1048576) : Calls Try.prog 39 #[v, .int .i64 t] w (LiesTo (difN t zs) w) := by
  have HV := hidH hv.top
  clear hv
  go_enter Try.func39, Try.ntmps39
  go_wp2_with fail
  go_loopw [5, 8] (fun vs i wr => ∃ (j : Nat) (cv : Value), j ≤ t ∧ i = .int .i64 j ∧ cv = vs ∧ Lies wr 0 wr.heap.size cv (difN j zs) ∧ Below w.heap.size w wr) (fun _ i _ => t - (intOf i).toNat)
  case atStart => exact ⟨0, v, by omega, rfl, rfl, HV.out, Below.refl _ _⟩
  case round =>
    obtain ⟨j, cv, hj, rfl, rfl, hl, hb⟩ := hrel
    have HB := hidH hb
    by_cases hlt : j < t
    · have hlen : (difN j zs).length = zs.length - j := difN_length j zs
      obtain ⟨x, ys, hxy⟩ : ∃ x ys, difN j zs = x :: ys := by
        cases e : difN j zs with
        | nil => rw [e] at hlen; simp at hlen; omega
        | cons x ys => exact ⟨x, ys, rfl⟩
      rw [hxy] at hl hlen
      have hyl : ys.length ≤ 1048576 := by simp at hlen; omega
      have HD := hidH (show difN (j + 1) zs = difW (x :: ys) by rw [difN_snoc, hxy])
      have HK := hidH (diffs_any cv x ys wr _ _ hl hyl)
      clear hl hb hxy hlen
      go_wp2_with fail
      refine HK.out.mono ?_; rintro e w3 ⟨v3, rfl, hr3, hb3⟩
      have HR3 := hidH hr3
      have HB3 := hidH (HB.out.trans (hb3.mono HB.out.size))
      clear hr3 hb3
      go_wp2_with fail
      go_roundw
      case rel => exact ⟨j + 1, v3, by omega, by go_num, rfl, by rw [HD.out]; exact HR3.out.lies.mono (Nat.zero_le _) (Nat.le_refl _), HB3.out⟩
      case measure => simp [intOf]; omega
    · obtain rfl : j = t := by omega
      have HL := hidH hl
      clear hl hb
      go_wp2_with fail
      go_ret
      exact ⟨cv, rfl, HL.out, HB.out⟩
theorem sClean4_any (v : Value) (zs : List Int) (d : Nat) (w : World) (lo hi : Nat) (hv : Lies w lo hi v zs) (hd : d ≤ 6) (hn : zs.length ≤ 1048576) : Calls Try.prog 56 #[v, .int .i64 d] w (Gives (.bool (zeroOk (difN (d + 1) zs))) w) := by
  have HK := hidH (sRow4_any v zs (d + 1) w lo hi hv (by omega) hn)
  clear hv
  go_enter Try.func56, Try.ntmps56
  go_wp2_with fail
  refine HK.out.mono ?_; rintro e w1 ⟨u, rfl, hl, hb⟩
  have HL := hidH hl
  have HB := hidH hb
  clear hl hb
  go_wp2_with fail
  refine (sZero_any _ _ _ _ _ HL.out).mono ?_; rintro e w2 ⟨rfl, rfl⟩
  go_wp2_with fail
  go_ret
  exact ⟨rfl, HB.out⟩
theorem clean_any (v0 : Value) (zs0 : List Int) (n1 : Int) (w : World) (lo0 hi0 : Nat) (hv0 : Lies w lo0 hi0 v0 zs0) : Calls Try.prog 15 #[v0, .int .i64 n1] w (Gives (.bool (cleanB zs0 n1)) w) := by
  have HK := hidH (least_any v0 zs0 w lo0 hi0 hv0)
  have ⟨hl1, hl2, _, _⟩ := least_ge zs0
  rw [cleanB_eq]
  clear hv0
  generalize leastL zs0 = l at *
  cases hd : degOk n1
  · have HD := hidH hd
    rw [Bool.false_and]
    clear hd
    go_enter Try.func15, Try.ntmps15
    go_wp2_with fail
    refine HK.out.mono ?_; rintro e w1 ⟨rfl, hb⟩
    have HB := hidH hb
    clear hb
    go_wp2_with fail
    refine (degValid_any n1 _).mono ?_; rintro e w_ ⟨rfl, rfl⟩
    rw [HD.out]
    go_wp2_with fail
    go_ret
    exact ⟨rfl, HB.out⟩
  · have HD := hidH hd
    rw [Bool.true_and]
    clear hd
    by_cases h1 : -1 ≤ l
    · rw [decide_eq_true h1, Bool.true_and]
      go_enter Try.func15, Try.ntmps15
      go_wp2_with fail
      refine HK.out.mono ?_; rintro e w1 ⟨rfl, hb⟩
      have HB := hidH hb
      clear hb
      go_wp2_with fail
      refine (degValid_any n1 _).mono ?_; rintro e w_ ⟨rfl, rfl⟩
      rw [HD.out]
      go_wp2_with fail
      go_ret
      exact ⟨rfl, HB.out⟩
    · rw [decide_eq_false h1, Bool.false_and]
      have h1' : l < -1 := by omega
      clear h1
      go_enter Try.func15, Try.ntmps15
      go_wp2_with fail
      refine HK.out.mono ?_; rintro e w1 ⟨rfl, hb⟩
      have HB := hidH hb
      clear hb
      go_wp2_with fail
      refine (degValid_any n1 _).mono ?_; rintro e w_ ⟨rfl, rfl⟩
      rw [HD.out]
      go_wp2_with fail
      go_ret
      exact ⟨rfl, HB.out⟩
theorem sClean_no (v0 : Value) (zs0 : List Int) (n1 : Int) (w : World) (lo0 hi0 : Nat) (hv0 : Lies w lo0 hi0 v0 zs0) (h : (((tableOk zs0) && (degOk n1))) = false) : Calls Try.prog 18 #[v0, .int .i64 n1] w (Gives (.bool false) w) := by
  have HV0_0 := hidH hv0
  clear hv0
  have HB0 := hidH (Below.refl w.heap.size w)
  cases hc0 : tableOk zs0
  · have HC0 := hidH hc0
    clear h hc0
    go_enter Try.func18, Try.ntmps18
    go_wp2_with fail
    refine (sTableValid_gives _ zs0 _ _ _ HV0_0.out).mono ?_; rintro e w1 ⟨rfl, hb⟩
    have HV0_1 := hidH (HV0_0.out.below hb)
    clear HV0_0
    have HB1 := hidH (HB0.out.trans (hb.mono HB0.out.size))
    clear hb HB0
    rw [HC0.out]
    go_wp2_with fail
    go_ret
    exact ⟨rfl, HB1.out⟩
  · rw [hc0, Bool.true_and] at h
    have HC0 := hidH hc0
    clear hc0
    · have HC1 := hidH h
      clear h
      go_enter Try.func18, Try.ntmps18
      go_wp2_with fail
      refine (sTableValid_gives _ zs0 _ _ _ HV0_0.out).mono ?_; rintro e w1 ⟨rfl, hb⟩
      have HV0_1 := hidH (HV0_0.out.below hb)
      clear HV0_0
      have HB1 := hidH (HB0.out.trans (hb.mono HB0.out.size))
      clear hb HB0
      rw [HC0.out]
      go_wp2_with fail
      refine (sDeg4_any n1 _).mono ?_; rintro e w_ ⟨rfl, rfl⟩
      rw [HC1.out]
      go_wp2_with fail
      go_ret
      exact ⟨rfl, HB1.out⟩
set_option maxHeartbeats 800000 in
theorem sClean_yes (v0 : Value) (zs0 : List Int) (n1 : Int) (w : World) (lo0 hi0 : Nat) (hv0 : Lies w lo0 hi0 v0 zs0) (hc0 : (tableOk zs0) = true) (hc1 : (degOk n1) = true) : Calls Try.prog 18 #[v0, .int .i64 n1] w (Gives (.bool (zeroOk (difN (n1.toNat + 1) zs0))) w) := by
  have HV0_0 := hidH hv0
  clear hv0
  have HB0 := hidH (Below.refl w.heap.size w)
  have HC0 := hidH hc0
  have HC1 := hidH hc1
  clear hc0 hc1
  have ⟨hd1, hd2⟩ := of_decide_eq_true HC1.out
  have ⟨ht1, ht2⟩ := tableOk_len _ HC0.out
  have HN := hidH (show ((n1.toNat : Nat) : Int) = n1 by omega)
  go_enter Try.func18, Try.ntmps18
  go_wp2_with fail
  refine (sTableValid_gives _ zs0 _ _ _ HV0_0.out).mono ?_; rintro e w1 ⟨rfl, hb⟩
  have HV0_1 := hidH (HV0_0.out.below hb)
  clear HV0_0
  have HB1 := hidH (HB0.out.trans (hb.mono HB0.out.size))
  clear hb HB0
  rw [HC0.out]
  go_wp2_with fail
  refine (sDeg4_any n1 _).mono ?_; rintro e w_ ⟨rfl, rfl⟩
  rw [HC1.out]
  have HK := hidH (sClean4_any v0 zs0 n1.toNat w1 _ _ HV0_1.out (by omega) (by omega))
  rw [HN.out] at HK
  go_wp2_with fail
  refine HK.out.mono ?_; rintro e wz ⟨rfl, hb⟩
  have HBz := hidH (HB1.out.trans (hb.mono HB1.out.size))
  clear hb
  go_wp2_with fail
  go_ret
  exact ⟨rfl, HBz.out⟩
theorem sClean_any (v0 : Value) (zs0 : List Int) (n1 : Int) (w : World) (lo0 hi0 : Nat) (hv0 : Lies w lo0 hi0 v0 zs0) : Calls Try.prog 18 #[v0, .int .i64 n1] w (Gives (.bool (cleanB zs0 n1)) w) := by
  unfold cleanB
  cases h0 : tableOk zs0
  · rw [Bool.false_and]; exact sClean_no v0 zs0 n1 w lo0 hi0 hv0 (by rw [h0]; rfl)
  · cases h1 : degOk n1
    · rw [Bool.false_and, Bool.and_false]; exact sClean_no v0 zs0 n1 w lo0 hi0 hv0 (by rw [h0, h1]; rfl)
    · rw [Bool.true_and, Bool.true_and]; exact sClean_yes v0 zs0 n1 w lo0 hi0 hv0 h0 h1
end Go.Proofs.Ytlicihjjbojpcaa
