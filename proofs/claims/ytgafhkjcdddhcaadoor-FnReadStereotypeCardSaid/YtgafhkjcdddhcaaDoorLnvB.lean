/-
  LinesValid: the program and the model, at every argument. No conditions but that texts fit in memory.
-/
import Derived.Test.YtgafhkjcdddhcaaDoorLnvA
import Derived.Test.YtgafhkjcdddhcaaDoorEngBox
import Derived.Test.YtgafhkjcdddhcaaDoorHeld
import Derived.BigRegion
namespace Go.Proofs.YtgafhkjcdddhcaaDoor
set_option maxRecDepth 4000
open Go.RowKit
theorem unfitLine_any (c : ByteArray) (w : World) (hs : c.size ≤ 9223372036854775807) : Calls Tryd.prog 55 #[.string c] w fun e w' => e = .returned (.bool (!linOk c)) ∧ w' = w := by
  have HS := hidH (fun W => lineValid_any c W hs)
  go_enter Tryd.func55, Tryd.ntmps55
  go_wp2_with fail
  refine (HS.out _).mono ?_; rintro e w1 ⟨rfl, rfl⟩
  go_wp2_with fail
  go_ret
  exact ⟨rfl, rfl⟩
theorem indexLine_any (cs : List ByteArray) (v : Value) (w : World) (lo hi : Nat) (hv : LiesS w lo hi v cs) (hm : ∀ c ∈ cs, c.size ≤ 9223372036854775807) :
    Calls Tryd.prog 78 #[v, .func (.func 55) #[] #[]] w fun e w' => ∃ r : Int, e = .returned (.int .i64 r) ∧ (cs.all linOk = false ∧ 0 ≤ r ∨ cs.all linOk = true ∧ r = -1) ∧ w' = w := by
  obtain ⟨a, cap, rfl, hlc, hcm, hnil, hcell⟩ := hv
  unfold maxLen at hcm
  have HC := hidH hcell
  have HMM := hidH hm
  clear hcell hnil hm
  go_enter Tryd.func78, Tryd.ntmps78
  go_wp2
  go_loopw [8] (fun i wr => ∃ k : Nat, k ≤ cs.length ∧ i = .int .i64 k ∧ (∀ j c, j < k → cs[j]? = some c → linOk c = true) ∧ w = wr) (fun i _ => cs.length - (intOf i).toNat)
  case atStart => exact ⟨0, Nat.zero_le _, rfl, fun j _ hj => absurd hj (Nat.not_lt_zero _), rfl⟩
  case round =>
    obtain ⟨k, hk, rfl, hall, rfl⟩ := hrel
    have HA := hidH hall
    clear hall
    by_cases hlt : k < cs.length
    · obtain ⟨c, hc⟩ := get_lt cs k hlt
      obtain ⟨b, off, rfl, _, _, hcw⟩ := HC.out k c hc
      have HCC := hidH hc
      have HU := hidH (fun W => unfitLine_any c W (HMM.out c (List.mem_of_getElem? hc)))
      clear hc
      cases hpc : linOk c
      · have HF := hidH (show cs.all linOk = false by
          cases e : cs.all linOk
          · rfl
          · rw [List.all_eq_true.1 e c (List.mem_of_getElem? HCC.out)] at hpc; cases hpc)
        rw [hpc] at HU
        clear hpc
        go_wp2_with fail
        refine (HU.out _).mono ?_; rintro e w1 ⟨rfl, hww⟩
        rw [hww]
        clear hww
        go_wp2
        go_ret
        exact ⟨_, rfl, .inl ⟨HF.out, by omega⟩, rfl⟩
      · have HPC := hidH hpc
        rw [hpc] at HU
        clear hpc
        go_wp2_with fail
        refine (HU.out _).mono ?_; rintro e w1 ⟨rfl, hww⟩
        rw [hww]
        clear hww
        go_wp2
        go_roundw
        case rel =>
          refine ⟨k + 1, by omega, by go_num, fun j d hj hd => ?_, by first | rfl | trivial⟩
          by_cases e : j = k
          · subst e
            rw [HCC.out] at hd
            injection hd with hd
            rw [← hd]; exact HPC.out
          · exact HA.out j d (by omega) hd
        case measure => simp [intOf]; omega
    · obtain rfl : k = cs.length := by omega
      have HT := hidH (show cs.all linOk = true from List.all_eq_true.2 fun c hc => by
        obtain ⟨j, hj⟩ := List.getElem?_of_mem hc
        exact HA.out j c (List.getElem?_eq_some_iff.1 hj).1 hj)
      go_wp2
      go_ret
      exact ⟨_, rfl, .inr ⟨HT.out, rfl⟩, rfl⟩
theorem anyLine_any (cs : List ByteArray) (v : Value) (w : World) (lo hi : Nat) (hv : LiesS w lo hi v cs) (hm : ∀ c ∈ cs, c.size ≤ 9223372036854775807) :
    Calls Tryd.prog 57 #[v, .func (.func 55) #[] #[]] w fun e w' => e = .returned (.bool (!cs.all linOk)) ∧ w' = w := by
  have HI := hidH (indexLine_any cs v w lo hi hv hm)
  obtain ⟨a, cap, rfl⟩ := hv.some
  clear hv hm
  cases ha : cs.all linOk
  · have HA := hidH ha
    clear ha
    go_enter Tryd.func57, Tryd.ntmps57
    go_wp2_with fail
    refine HI.out.mono ?_; rintro e w1 ⟨r, rfl, hr, hww⟩
    have hr0 : 0 ≤ r := by
      rcases hr with ⟨_, h⟩ | ⟨h, _⟩
      · exact h
      · rw [HA.out] at h; cases h
    rw [hww]
    clear hr hww
    go_wp2
    go_ret
    exact ⟨rfl, rfl⟩
  · have HA := hidH ha
    clear ha
    go_enter Tryd.func57, Tryd.ntmps57
    go_wp2_with fail
    refine HI.out.mono ?_; rintro e w1 ⟨r, rfl, hr, hww⟩
    obtain rfl : r = -1 := by
      rcases hr with ⟨h, _⟩ | ⟨_, h⟩
      · rw [HA.out] at h; cases h
      · exact h
    rw [hww]
    clear hr hww
    go_wp2
    go_ret
    exact ⟨rfl, rfl⟩
theorem linesValid_any (v : Value) (cs : List ByteArray) (w : World) (lo hi : Nat) (hv : LiesS w lo hi v cs) (hm : ∀ c ∈ cs, c.size ≤ 9223372036854775807) : Calls Tryd.prog 25 #[v] w (Gives (.bool (linesOk cs)) w) := by
  have HI := hidH (anyLine_any cs v w lo hi hv hm)
  obtain ⟨a, cap, rfl, hlc, hcm, _, _⟩ := hv
  unfold maxLen at hcm
  by_cases h40 : cs.length ≤ 40
  · have HE := hidH (show linesOk cs = cs.all linOk by rw [linesOk, decide_eq_true h40, Bool.true_and])
    go_enter Tryd.func25, Tryd.ntmps25
    go_wp2_with fail
    refine HI.out.mono ?_; rintro e w1 ⟨rfl, hww⟩
    rw [hww]
    clear hww
    go_wp2_with fail
    go_ret
    exact ⟨by rw [HE.out]; simp, Below.refl _ _⟩
  · have HE := hidH (show linesOk cs = false by rw [linesOk, decide_eq_false h40, Bool.false_and])
    go_enter Tryd.func25, Tryd.ntmps25
    go_wp2_with fail
    go_ret
    exact ⟨by rw [HE.out]; rfl, Below.refl _ _⟩
theorem linesOk_bad {cs : List ByteArray} {k : Nat} {s : ByteArray} (h : cs[k]? = some s) (hs : linOk s = false) : linesOk cs = false := by
  have : cs.all linOk = false := by
    cases e : cs.all linOk
    · rfl
    · rw [List.all_eq_true.1 e s (List.mem_of_getElem? h)] at hs; cases hs
  rw [linesOk, this, Bool.and_false]
set_option maxHeartbeats 1600000 in
theorem sLinesValid_any (v : Value) (cs : List ByteArray) (w : World) (lo hi : Nat) (hv : LiesS w lo hi v cs) (hm : ∀ c ∈ cs, c.size ≤ 9223372036854775807) : Calls Tryd.prog 26 #[v] w (Gives (.bool (linesOk cs)) w) := by
  obtain ⟨a, cap, rfl, hlc, hcm, hnil, hcell⟩ := hv
  unfold maxLen at hcm
  have HC := hidH hcell
  have HMM := hidH hm
  clear hcell hnil hm
  go_enter Tryd.func26, Tryd.ntmps26
  go_wp2_with fail
  go_loopw [3] (fun i wr => ∃ k q : Nat, k ≤ cs.length ∧ i = .int .i64 k ∧ (∀ j c, j < k → cs[j]? = some c → linOk c = true) ∧ wr = w.drewN q) (fun i _ => cs.length - (intOf i).toNat)
  case atStart => exact ⟨0, 0, Nat.zero_le _, rfl, fun j _ hj => absurd hj (Nat.not_lt_zero _), rfl⟩
  case round =>
    obtain ⟨k, q, hk, rfl, hall, rfl⟩ := hrel
    have HA := hidH hall
    clear hall
    by_cases hlt : k < cs.length
    · obtain ⟨s, hc⟩ := get_lt cs k hlt
      obtain ⟨b, off, rfl, _, _, hcw0⟩ := HC.out k s hc
      have hcw : (w.drewN q).cell? ⟨b, off + k, none⟩ = some (.string s) := by rw [World.cell?_drewN]; exact hcw0
      have HCC := hidH hc
      have hs63 := HMM.out s (List.mem_of_getElem? hc)
      have HBF := hidH (fun (h : linOk s = false) => linesOk_bad hc h)
      clear hc
      go_wp2_with fail
      go_loopw [4] (fun i wr => ∃ t : Nat, t ≤ s.size ∧ i = .int .i64 t ∧ (∀ j (hj : j < s.size), j < t → 32 ≤ s[j].toNat ∧ s[j].toNat ≤ 126) ∧ wr = w.drewN q) (fun i _ => s.size - (intOf i).toNat)
      case atStart => exact ⟨0, Nat.zero_le _, rfl, (fun _ _ h => absurd h (Nat.not_lt_zero _)), rfl⟩
      case round =>
        obtain ⟨t, ht, rfl, hok, rfl⟩ := hrel
        have HOK := hidH hok
        clear hok
        by_cases hlt2 : t < s.size
        · by_cases h1 : s[t].toNat < 32
          · have HF := hidH (HBF.out (linOk_bad s t hlt2 (.inl h1)))
            go_wp2_with fail
            go_ret
            exact ⟨by rw [HF.out]; rfl, below_drewN (Below.refl _ _) _⟩
          · by_cases h2 : 126 < s[t].toNat
            · have HF := hidH (HBF.out (linOk_bad s t hlt2 (.inr h2)))
              go_wp2_with fail
              go_ret
              exact ⟨by rw [HF.out]; rfl, below_drewN (Below.refl _ _) _⟩
            · have HB := hidH (show 32 ≤ s[t].toNat ∧ s[t].toNat ≤ 126 by omega)
              go_wp2_with fail
              go_roundw
              case rel =>
                refine ⟨t + 1, by omega, by go_num, fun j hj hjk => ?_, by first | rfl | trivial⟩
                by_cases e : j = t
                · subst e; exact HB.out
                · exact HOK.out j hj (by omega)
              case measure => simp [intOf]; omega
        · obtain rfl : t = s.size := by omega
          have HE := hidH (linOk_all s (fun j hj => HOK.out j hj hj))
          clear HOK
          by_cases h100 : s.size ≤ 100
          · have HE2 := hidH (show linOk s = !endSp s by rw [HE.out, decide_eq_true h100, Bool.true_and])
            have hg : ¬ 100 < s.size := by omega
            by_cases h0 : s.size = 0
            · have hs0 : s = ⟨#[]⟩ := ByteArray.ext (Array.eq_empty_of_size_eq_zero h0)
              have HL := hidH (show linOk s = true by rw [HE2.out, end_zero s h0]; rfl)
              subst hs0
              clear h0
              go_wp2_with fail
              refine wp_region_held_drew (S := fun w' => w'.cell? ⟨b, off + k, none⟩ = some (.string ⟨#[]⟩)) (by kernel_rfl) hcw (fun hHeld => ?_)
              try dsimp only
              refine onG 0 (some 36) (v := ?v1_) (by kernel_rfl) (by kernel_rfl) (by kernel_rfl) (fun _ _ _ h => h) (by rfl) hHeld ?hy1_ ?rest1_
              case hy1_ =>
                intro o ho; simp only [List.getElem?_toArray, List.getElem?_cons_zero, Option.some.injEq] at ho; subst ho; intro w hSw; (try dsimp only at hSw)
                go_simp
                try with_reducible rfl
              case rest1_ =>
              try simp only [Act.put, List.setIfInBounds_toArray, List.set_cons_zero, List.set_cons_succ]
              refine onG 1 (some 37) (v := ?v2_) (by kernel_rfl) (by kernel_rfl) (by kernel_rfl) (fun _ _ _ h => h) (by rfl) hHeld ?hy2_ ?rest2_
              case hy2_ =>
                intro o ho; simp only [List.getElem?_toArray, List.getElem?_cons_succ, List.getElem?_cons_zero, Option.some.injEq] at ho; subst ho; intro w hSw; (try dsimp only at hSw)
                go_simp
                try with_reducible rfl
              case rest2_ =>
              try simp only [Act.put, List.setIfInBounds_toArray, List.set_cons_zero, List.set_cons_succ]
              refine onG 2 (some 38) (v := ?v3_) (by kernel_rfl) (by kernel_rfl) (by kernel_rfl) (fun _ _ _ h => h) (by rfl) hHeld ?hy3_ ?rest3_
              case hy3_ =>
                intro o ho; simp only [List.getElem?_toArray, List.getElem?_cons_succ, List.getElem?_cons_zero, Option.some.injEq] at ho; subst ho; intro w hSw; (try dsimp only at hSw)
                go_simp
                try with_reducible rfl
              case rest3_ =>
              try simp only [Act.put, List.setIfInBounds_toArray, List.set_cons_zero, List.set_cons_succ]
              refine onG 3 (some 39) (v := ?v4_) (by kernel_rfl) (by kernel_rfl) (by kernel_rfl) (fun _ _ _ h => h) (by rfl) hHeld ?hy4_ ?rest4_
              case hy4_ =>
                intro o ho; simp only [List.getElem?_toArray, List.getElem?_cons_succ, List.getElem?_cons_zero, Option.some.injEq] at ho; subst ho; intro w hSw; (try dsimp only at hSw)
                go_simp
                try with_reducible rfl
              case rest4_ =>
              try simp only [Act.put, List.setIfInBounds_toArray, List.set_cons_zero, List.set_cons_succ]
              refine onG 4 (some 40) (v := ?v5_) (by kernel_rfl) (by kernel_rfl) (by kernel_rfl) (fun _ _ _ h => h) (by rfl) hHeld ?hy5_ ?rest5_
              case hy5_ =>
                intro o ho; simp only [List.getElem?_toArray, List.getElem?_cons_succ, List.getElem?_cons_zero, Option.some.injEq] at ho; subst ho; intro w hSw; (try dsimp only at hSw)
                go_simp
                try with_reducible rfl
              case rest5_ =>
              try simp only [Act.put, List.setIfInBounds_toArray, List.set_cons_zero, List.set_cons_succ]
              refine onG 5 (some 41) (v := .bool false) (by kernel_rfl) (by kernel_rfl) (by kernel_rfl) (fun _ _ _ h => h) (by rfl) hHeld ?hy6_ ?rest6_
              case hy6_ =>
                intro o ho; simp only [List.getElem?_toArray, List.getElem?_cons_succ, List.getElem?_cons_zero, Option.some.injEq] at ho; subst ho; intro w hSw; (try dsimp only at hSw)
                go_simp
                all_goals (try simp [hg]); all_goals (try omega)
              case rest6_ =>
              try simp only [Act.put, List.setIfInBounds_toArray, List.set_cons_zero, List.set_cons_succ]
              refine onG 6 (some 42) (v := ?v7_) (by kernel_rfl) (by kernel_rfl) (by kernel_rfl) (fun _ _ _ h => h) (by rfl) hHeld ?hy7_ ?rest7_
              case hy7_ =>
                intro o ho; simp only [List.getElem?_toArray, List.getElem?_cons_succ, List.getElem?_cons_zero, Option.some.injEq] at ho; subst ho; intro w hSw; (try dsimp only at hSw)
                go_simp
                try with_reducible rfl
              case rest7_ =>
              try simp only [Act.put, List.setIfInBounds_toArray, List.set_cons_zero, List.set_cons_succ]
              refine onG 7 (some 43) (v := ?v8_) (by kernel_rfl) (by kernel_rfl) (by kernel_rfl) (fun _ _ _ h => h) (by rfl) hHeld ?hy8_ ?rest8_
              case hy8_ =>
                intro o ho; simp only [List.getElem?_toArray, List.getElem?_cons_succ, List.getElem?_cons_zero, Option.some.injEq] at ho; subst ho; intro w hSw; (try dsimp only at hSw)
                go_simp
                try with_reducible rfl
              case rest8_ =>
              try simp only [Act.put, List.setIfInBounds_toArray, List.set_cons_zero, List.set_cons_succ]
              refine onG 8 (some 44) (v := ?v9_) (by kernel_rfl) (by kernel_rfl) (by kernel_rfl) (fun _ _ _ h => h) (by rfl) hHeld ?hy9_ ?rest9_
              case hy9_ =>
                intro o ho; simp only [List.getElem?_toArray, List.getElem?_cons_succ, List.getElem?_cons_zero, Option.some.injEq] at ho; subst ho; intro w hSw; (try dsimp only at hSw)
                go_simp
                try with_reducible rfl
              case rest9_ =>
              try simp only [Act.put, List.setIfInBounds_toArray, List.set_cons_zero, List.set_cons_succ]
              refine onG 9 (some 45) (v := ?v10_) (by kernel_rfl) (by kernel_rfl) (by kernel_rfl) (fun _ _ _ h => h) (by rfl) hHeld ?hy10_ ?rest10_
              case hy10_ =>
                intro o ho; simp only [List.getElem?_toArray, List.getElem?_cons_succ, List.getElem?_cons_zero, Option.some.injEq] at ho; subst ho; intro w hSw; (try dsimp only at hSw)
                go_simp
                try with_reducible rfl
              case rest10_ =>
              try simp only [Act.put, List.setIfInBounds_toArray, List.set_cons_zero, List.set_cons_succ]
              refine onG 10 (some 46) (v := ?v11_) (by kernel_rfl) (by kernel_rfl) (by kernel_rfl) (fun _ _ _ h => h) (by rfl) hHeld ?hy11_ ?rest11_
              case hy11_ =>
                intro o ho; simp only [List.getElem?_toArray, List.getElem?_cons_succ, List.getElem?_cons_zero, Option.some.injEq] at ho; subst ho; intro w hSw; (try dsimp only at hSw)
                go_simp
                try with_reducible rfl
              case rest11_ =>
              try simp only [Act.put, List.setIfInBounds_toArray, List.set_cons_zero, List.set_cons_succ]
              refine onG 11 (some 47) (v := .bool false) (by kernel_rfl) (by kernel_rfl) (by kernel_rfl) (fun _ _ _ h => h) (by rfl) hHeld ?hy12_ ?rest12_
              case hy12_ =>
                intro o ho; simp only [List.getElem?_toArray, List.getElem?_cons_succ, List.getElem?_cons_zero, Option.some.injEq] at ho; subst ho; intro w hSw; (try dsimp only at hSw)
                go_simp
                all_goals (try simp)
              case rest12_ =>
              try simp only [Act.put, List.setIfInBounds_toArray, List.set_cons_zero, List.set_cons_succ]
              refine onG 12 (some 48) (v := ?v13_) (by kernel_rfl) (by kernel_rfl) (by kernel_rfl) (fun _ _ _ h => h) (by rfl) hHeld ?hy13_ ?rest13_
              case hy13_ =>
                intro o ho; simp only [List.getElem?_toArray, List.getElem?_cons_succ, List.getElem?_cons_zero, Option.some.injEq] at ho; subst ho; intro w hSw; (try dsimp only at hSw)
                go_simp
                try with_reducible rfl
              case rest13_ =>
              try simp only [Act.put, List.setIfInBounds_toArray, List.set_cons_zero, List.set_cons_succ]
              refine offG 13 (some 49) (by kernel_rfl) (by kernel_rfl) (by kernel_rfl) (fun _ _ _ h => h) (by rfl) hHeld ?_
              try simp only [Act.put, List.setIfInBounds_toArray, List.set_cons_zero, List.set_cons_succ]
              refine offG 14 (some 50) (by kernel_rfl) (by kernel_rfl) (by kernel_rfl) (fun _ _ _ h => h) (by rfl) hHeld ?_
              try simp only [Act.put, List.setIfInBounds_toArray, List.set_cons_zero, List.set_cons_succ]
              refine offG 15 (some 51) (by kernel_rfl) (by kernel_rfl) (by kernel_rfl) (fun _ _ _ h => h) (by rfl) hHeld ?_
              try simp only [Act.put, List.setIfInBounds_toArray, List.set_cons_zero, List.set_cons_succ]
              refine offG 16 (some 52) (by kernel_rfl) (by kernel_rfl) (by kernel_rfl) (fun _ _ _ h => h) (by rfl) hHeld ?_
              try simp only [Act.put, List.setIfInBounds_toArray, List.set_cons_zero, List.set_cons_succ]
              refine offG 17 (some 53) (by kernel_rfl) (by kernel_rfl) (by kernel_rfl) (fun _ _ _ h => h) (by rfl) hHeld ?_
              try simp only [Act.put, List.setIfInBounds_toArray, List.set_cons_zero, List.set_cons_succ]
              refine offG 18 (some 54) (by kernel_rfl) (by kernel_rfl) (by kernel_rfl) (fun _ _ _ h => h) (by rfl) hHeld ?_
              try simp only [Act.put, List.setIfInBounds_toArray, List.set_cons_zero, List.set_cons_succ]
              refine offG 19 (some 55) (by kernel_rfl) (by kernel_rfl) (by kernel_rfl) (fun _ _ _ h => h) (by rfl) hHeld ?_
              try simp only [Act.put, List.setIfInBounds_toArray, List.set_cons_zero, List.set_cons_succ]
              refine offG 20 (some 56) (by kernel_rfl) (by kernel_rfl) (by kernel_rfl) (fun _ _ _ h => h) (by rfl) hHeld ?_
              try simp only [Act.put, List.setIfInBounds_toArray, List.set_cons_zero, List.set_cons_succ]
              refine offG 21 (some 57) (by kernel_rfl) (by kernel_rfl) (by kernel_rfl) (fun _ _ _ h => h) (by rfl) hHeld ?_
              try simp only [Act.put, List.setIfInBounds_toArray, List.set_cons_zero, List.set_cons_succ]
              refine offG 22 (some 58) (by kernel_rfl) (by kernel_rfl) (by kernel_rfl) (fun _ _ _ h => h) (by rfl) hHeld ?_
              try simp only [Act.put, List.setIfInBounds_toArray, List.set_cons_zero, List.set_cons_succ]
              refine offG 23 (some 59) (by kernel_rfl) (by kernel_rfl) (by kernel_rfl) (fun _ _ _ h => h) (by rfl) hHeld ?_
              try simp only [Act.put, List.setIfInBounds_toArray, List.set_cons_zero, List.set_cons_succ]
              refine offG 24 (some 60) (by kernel_rfl) (by kernel_rfl) (by kernel_rfl) (fun _ _ _ h => h) (by rfl) hHeld ?_
              try simp only [Act.put, List.setIfInBounds_toArray, List.set_cons_zero, List.set_cons_succ]
              refine onG 25 (some 61) (v := ?v14_) (by kernel_rfl) (by kernel_rfl) (by kernel_rfl) (fun _ _ _ h => h) (by rfl) hHeld ?hy14_ ?rest14_
              case hy14_ =>
                intro o ho; simp only [List.getElem?_toArray, List.getElem?_cons_succ, List.getElem?_cons_zero, Option.some.injEq] at ho; subst ho; intro w hSw; (try dsimp only at hSw)
                go_simp
                try with_reducible rfl
              case rest14_ =>
              try simp only [Act.put, List.setIfInBounds_toArray, List.set_cons_zero, List.set_cons_succ]
              refine onG 26 (some 62) (v := ?v15_) (by kernel_rfl) (by kernel_rfl) (by kernel_rfl) (fun _ _ _ h => h) (by rfl) hHeld ?hy15_ ?rest15_
              case hy15_ =>
                intro o ho; simp only [List.getElem?_toArray, List.getElem?_cons_succ, List.getElem?_cons_zero, Option.some.injEq] at ho; subst ho; intro w hSw; (try dsimp only at hSw)
                go_simp
                try with_reducible rfl
              case rest15_ =>
              try simp only [Act.put, List.setIfInBounds_toArray, List.set_cons_zero, List.set_cons_succ]
              refine wpAnyH_done (by kernel_rfl) ?_ _
              go_wp2_with fail
              go_roundw
              case rel =>
                refine ⟨k + 1, _, by omega, by go_num, fun j d hj hd => ?_, by first | rfl | exact drewN_add _ _ _⟩
                by_cases e : j = k
                · subst e
                  rw [HCC.out] at hd
                  injection hd with hd
                  rw [← hd]; exact HL.out
                · exact HA.out j d (by omega) hd
              case measure => simp [intOf]; omega
            · obtain ⟨n, hn⟩ : ∃ n, n = s.size - 1 := ⟨_, rfl⟩
              have hnl : n < s.size := by omega
              have hni : (s.size : Int) - 1 = (n : Int) := by omega
              have hwn : IntKind.i64.wrap (n : Int) = n := by rw [IntKind.wrap_i64]; omega
              have HED := hidH (show endSp s = decide (s[n] = 32) by rw [end_at s (by omega)]; simp only [hn])
              have hne : ¬ s.data.toList = [] := fun e => h0 (by have := congrArg List.length e; simpa using this)
              have e1 : (s.toList == []) = false := by rw [Lib.toList_data]; exact beq_eq_false_iff_ne.2 hne
              have e2 : s.toList.isEmpty = false := by rw [Lib.toList_data]; cases h : s.data.toList with | nil => exact absurd h hne | cons a l => rfl
              have e3 : (s.toList != []) = true := by rw [Lib.toList_data]; exact bne_iff_ne.2 hne
              clear hn hne
              by_cases hsp : s[n] = 32
              · have HF := hidH (HBF.out (by rw [HE2.out, HED.out, decide_eq_true hsp]; rfl))
                have hb1 : ((s[n].toNat : Int) == 32) = true := by rw [hsp]; rfl
                clear hsp
                go_wp2_with fail
                refine wp_region_held_drew (S := fun w' => w'.cell? ⟨b, off + k, none⟩ = some (.string s)) (by kernel_rfl) hcw (fun hHeld => ?_)
                try dsimp only
                refine onG 0 (some 36) (v := ?v16_) (by kernel_rfl) (by kernel_rfl) (by kernel_rfl) (fun _ _ _ h => h) (by rfl) hHeld ?hy16_ ?rest16_
                case hy16_ =>
                  intro o ho; simp only [List.getElem?_toArray, List.getElem?_cons_zero, Option.some.injEq] at ho; subst ho; intro w hSw; (try dsimp only at hSw)
                  go_simp
                  try with_reducible rfl
                case rest16_ =>
                try simp only [Act.put, List.setIfInBounds_toArray, List.set_cons_zero, List.set_cons_succ]
                refine onG 1 (some 37) (v := ?v17_) (by kernel_rfl) (by kernel_rfl) (by kernel_rfl) (fun _ _ _ h => h) (by rfl) hHeld ?hy17_ ?rest17_
                case hy17_ =>
                  intro o ho; simp only [List.getElem?_toArray, List.getElem?_cons_succ, List.getElem?_cons_zero, Option.some.injEq] at ho; subst ho; intro w hSw; (try dsimp only at hSw)
                  go_simp
                  try with_reducible rfl
                case rest17_ =>
                try simp only [Act.put, List.setIfInBounds_toArray, List.set_cons_zero, List.set_cons_succ]
                refine onG 2 (some 38) (v := ?v18_) (by kernel_rfl) (by kernel_rfl) (by kernel_rfl) (fun _ _ _ h => h) (by rfl) hHeld ?hy18_ ?rest18_
                case hy18_ =>
                  intro o ho; simp only [List.getElem?_toArray, List.getElem?_cons_succ, List.getElem?_cons_zero, Option.some.injEq] at ho; subst ho; intro w hSw; (try dsimp only at hSw)
                  go_simp
                  try with_reducible rfl
                case rest18_ =>
                try simp only [Act.put, List.setIfInBounds_toArray, List.set_cons_zero, List.set_cons_succ]
                refine onG 3 (some 39) (v := ?v19_) (by kernel_rfl) (by kernel_rfl) (by kernel_rfl) (fun _ _ _ h => h) (by rfl) hHeld ?hy19_ ?rest19_
                case hy19_ =>
                  intro o ho; simp only [List.getElem?_toArray, List.getElem?_cons_succ, List.getElem?_cons_zero, Option.some.injEq] at ho; subst ho; intro w hSw; (try dsimp only at hSw)
                  go_simp
                  try with_reducible rfl
                case rest19_ =>
                try simp only [Act.put, List.setIfInBounds_toArray, List.set_cons_zero, List.set_cons_succ]
                refine onG 4 (some 40) (v := ?v20_) (by kernel_rfl) (by kernel_rfl) (by kernel_rfl) (fun _ _ _ h => h) (by rfl) hHeld ?hy20_ ?rest20_
                case hy20_ =>
                  intro o ho; simp only [List.getElem?_toArray, List.getElem?_cons_succ, List.getElem?_cons_zero, Option.some.injEq] at ho; subst ho; intro w hSw; (try dsimp only at hSw)
                  go_simp
                  try with_reducible rfl
                case rest20_ =>
                try simp only [Act.put, List.setIfInBounds_toArray, List.set_cons_zero, List.set_cons_succ]
                refine onG 5 (some 41) (v := .bool false) (by kernel_rfl) (by kernel_rfl) (by kernel_rfl) (fun _ _ _ h => h) (by rfl) hHeld ?hy21_ ?rest21_
                case hy21_ =>
                  intro o ho; simp only [List.getElem?_toArray, List.getElem?_cons_succ, List.getElem?_cons_zero, Option.some.injEq] at ho; subst ho; intro w hSw; (try dsimp only at hSw)
                  go_simp
                  all_goals (try simp [hg]); all_goals (try omega)
                case rest21_ =>
                try simp only [Act.put, List.setIfInBounds_toArray, List.set_cons_zero, List.set_cons_succ]
                refine onG 6 (some 42) (v := ?v22_) (by kernel_rfl) (by kernel_rfl) (by kernel_rfl) (fun _ _ _ h => h) (by rfl) hHeld ?hy22_ ?rest22_
                case hy22_ =>
                  intro o ho; simp only [List.getElem?_toArray, List.getElem?_cons_succ, List.getElem?_cons_zero, Option.some.injEq] at ho; subst ho; intro w hSw; (try dsimp only at hSw)
                  go_simp
                  try with_reducible rfl
                case rest22_ =>
                try simp only [Act.put, List.setIfInBounds_toArray, List.set_cons_zero, List.set_cons_succ]
                refine onG 7 (some 43) (v := ?v23_) (by kernel_rfl) (by kernel_rfl) (by kernel_rfl) (fun _ _ _ h => h) (by rfl) hHeld ?hy23_ ?rest23_
                case hy23_ =>
                  intro o ho; simp only [List.getElem?_toArray, List.getElem?_cons_succ, List.getElem?_cons_zero, Option.some.injEq] at ho; subst ho; intro w hSw; (try dsimp only at hSw)
                  go_simp
                  try with_reducible rfl
                case rest23_ =>
                try simp only [Act.put, List.setIfInBounds_toArray, List.set_cons_zero, List.set_cons_succ]
                refine onG 8 (some 44) (v := ?v24_) (by kernel_rfl) (by kernel_rfl) (by kernel_rfl) (fun _ _ _ h => h) (by rfl) hHeld ?hy24_ ?rest24_
                case hy24_ =>
                  intro o ho; simp only [List.getElem?_toArray, List.getElem?_cons_succ, List.getElem?_cons_zero, Option.some.injEq] at ho; subst ho; intro w hSw; (try dsimp only at hSw)
                  go_simp
                  try with_reducible rfl
                case rest24_ =>
                try simp only [Act.put, List.setIfInBounds_toArray, List.set_cons_zero, List.set_cons_succ]
                refine onG 9 (some 45) (v := ?v25_) (by kernel_rfl) (by kernel_rfl) (by kernel_rfl) (fun _ _ _ h => h) (by rfl) hHeld ?hy25_ ?rest25_
                case hy25_ =>
                  intro o ho; simp only [List.getElem?_toArray, List.getElem?_cons_succ, List.getElem?_cons_zero, Option.some.injEq] at ho; subst ho; intro w hSw; (try dsimp only at hSw)
                  go_simp
                  try with_reducible rfl
                case rest25_ =>
                try simp only [Act.put, List.setIfInBounds_toArray, List.set_cons_zero, List.set_cons_succ]
                refine onG 10 (some 46) (v := ?v26_) (by kernel_rfl) (by kernel_rfl) (by kernel_rfl) (fun _ _ _ h => h) (by rfl) hHeld ?hy26_ ?rest26_
                case hy26_ =>
                  intro o ho; simp only [List.getElem?_toArray, List.getElem?_cons_succ, List.getElem?_cons_zero, Option.some.injEq] at ho; subst ho; intro w hSw; (try dsimp only at hSw)
                  go_simp
                  try with_reducible rfl
                case rest26_ =>
                try simp only [Act.put, List.setIfInBounds_toArray, List.set_cons_zero, List.set_cons_succ]
                refine onG 11 (some 47) (v := .bool true) (by kernel_rfl) (by kernel_rfl) (by kernel_rfl) (fun _ _ _ h => h) (by rfl) hHeld ?hy27_ ?rest27_
                case hy27_ =>
                  intro o ho; simp only [List.getElem?_toArray, List.getElem?_cons_succ, List.getElem?_cons_zero, Option.some.injEq] at ho; subst ho; intro w hSw; (try dsimp only at hSw)
                  go_simp
                  all_goals (try simp [e1, e2, e3])
                case rest27_ =>
                try simp only [Act.put, List.setIfInBounds_toArray, List.set_cons_zero, List.set_cons_succ]
                refine onG 12 (some 48) (v := ?v28_) (by kernel_rfl) (by kernel_rfl) (by kernel_rfl) (fun _ _ _ h => h) (by rfl) hHeld ?hy28_ ?rest28_
                case hy28_ =>
                  intro o ho; simp only [List.getElem?_toArray, List.getElem?_cons_succ, List.getElem?_cons_zero, Option.some.injEq] at ho; subst ho; intro w hSw; (try dsimp only at hSw)
                  go_simp
                  try with_reducible rfl
                case rest28_ =>
                try simp only [Act.put, List.setIfInBounds_toArray, List.set_cons_zero, List.set_cons_succ]
                refine onG 13 (some 49) (v := ?v29_) (by kernel_rfl) (by kernel_rfl) (by kernel_rfl) (fun _ _ _ h => h) (by rfl) hHeld ?hy29_ ?rest29_
                case hy29_ =>
                  intro o ho; simp only [List.getElem?_toArray, List.getElem?_cons_succ, List.getElem?_cons_zero, Option.some.injEq] at ho; subst ho; intro w hSw; (try dsimp only at hSw)
                  go_simp
                  try with_reducible rfl
                case rest29_ =>
                try simp only [Act.put, List.setIfInBounds_toArray, List.set_cons_zero, List.set_cons_succ]
                refine onG 14 (some 50) (v := ?v30_) (by kernel_rfl) (by kernel_rfl) (by kernel_rfl) (fun _ _ _ h => h) (by rfl) hHeld ?hy30_ ?rest30_
                case hy30_ =>
                  intro o ho; simp only [List.getElem?_toArray, List.getElem?_cons_succ, List.getElem?_cons_zero, Option.some.injEq] at ho; subst ho; intro w hSw; (try dsimp only at hSw)
                  go_simp
                  try with_reducible rfl
                case rest30_ =>
                try simp only [Act.put, List.setIfInBounds_toArray, List.set_cons_zero, List.set_cons_succ]
                refine onG 15 (some 51) (v := ?v31_) (by kernel_rfl) (by kernel_rfl) (by kernel_rfl) (fun _ _ _ h => h) (by rfl) hHeld ?hy31_ ?rest31_
                case hy31_ =>
                  intro o ho; simp only [List.getElem?_toArray, List.getElem?_cons_succ, List.getElem?_cons_zero, Option.some.injEq] at ho; subst ho; intro w hSw; (try dsimp only at hSw)
                  go_simp
                  try with_reducible rfl
                case rest31_ =>
                try simp only [Act.put, List.setIfInBounds_toArray, List.set_cons_zero, List.set_cons_succ]
                refine onG 16 (some 52) (v := ?v32_) (by kernel_rfl) (by kernel_rfl) (by kernel_rfl) (fun _ _ _ h => h) (by rfl) hHeld ?hy32_ ?rest32_
                case hy32_ =>
                  intro o ho; simp only [List.getElem?_toArray, List.getElem?_cons_succ, List.getElem?_cons_zero, Option.some.injEq] at ho; subst ho; intro w hSw; (try dsimp only at hSw)
                  go_simp
                  try with_reducible rfl
                case rest32_ =>
                try simp only [Act.put, List.setIfInBounds_toArray, List.set_cons_zero, List.set_cons_succ]
                refine onG 17 (some 53) (v := ?v33_) (by kernel_rfl) (by kernel_rfl) (by kernel_rfl) (fun _ _ _ h => h) (by rfl) hHeld ?hy33_ ?rest33_
                case hy33_ =>
                  intro o ho; simp only [List.getElem?_toArray, List.getElem?_cons_succ, List.getElem?_cons_zero, Option.some.injEq] at ho; subst ho; intro w hSw; (try dsimp only at hSw)
                  go_simp
                  try with_reducible rfl
                case rest33_ =>
                try simp only [Act.put, List.setIfInBounds_toArray, List.set_cons_zero, List.set_cons_succ]
                refine onG 18 (some 54) (v := ?v34_) (by kernel_rfl) (by kernel_rfl) (by kernel_rfl) (fun _ _ _ h => h) (by rfl) hHeld ?hy34_ ?rest34_
                case hy34_ =>
                  intro o ho; simp only [List.getElem?_toArray, List.getElem?_cons_succ, List.getElem?_cons_zero, Option.some.injEq] at ho; subst ho; intro w hSw; (try dsimp only at hSw)
                  go_simp
                  try with_reducible rfl
                case rest34_ =>
                try simp only [Act.put, List.setIfInBounds_toArray, List.set_cons_zero, List.set_cons_succ]
                refine onG 19 (some 55) (v := ?v35_) (by kernel_rfl) (by kernel_rfl) (by kernel_rfl) (fun _ _ _ h => h) (by rfl) hHeld ?hy35_ ?rest35_
                case hy35_ =>
                  intro o ho; simp only [List.getElem?_toArray, List.getElem?_cons_succ, List.getElem?_cons_zero, Option.some.injEq] at ho; subst ho; intro w hSw; (try dsimp only at hSw)
                  go_simp
                  try with_reducible rfl
                case rest35_ =>
                try simp only [Act.put, List.setIfInBounds_toArray, List.set_cons_zero, List.set_cons_succ]
                refine onG 20 (some 56) (v := ?v36_) (by kernel_rfl) (by kernel_rfl) (by kernel_rfl) (fun _ _ _ h => h) (by rfl) hHeld ?hy36_ ?rest36_
                case hy36_ =>
                  intro o ho; simp only [List.getElem?_toArray, List.getElem?_cons_succ, List.getElem?_cons_zero, Option.some.injEq] at ho; subst ho; intro w hSw; (try dsimp only at hSw)
                  go_simp
                  try with_reducible rfl
                case rest36_ =>
                try simp only [Act.put, List.setIfInBounds_toArray, List.set_cons_zero, List.set_cons_succ]
                refine onG 21 (some 57) (v := ?v37_) (by kernel_rfl) (by kernel_rfl) (by kernel_rfl) (fun _ _ _ h => h) (by rfl) hHeld ?hy37_ ?rest37_
                case hy37_ =>
                  intro o ho; simp only [List.getElem?_toArray, List.getElem?_cons_succ, List.getElem?_cons_zero, Option.some.injEq] at ho; subst ho; intro w hSw; (try dsimp only at hSw)
                  go_simp
                  try with_reducible rfl
                case rest37_ =>
                try simp only [Act.put, List.setIfInBounds_toArray, List.set_cons_zero, List.set_cons_succ]
                refine onG 22 (some 58) (v := ?v38_) (by kernel_rfl) (by kernel_rfl) (by kernel_rfl) (fun _ _ _ h => h) (by rfl) hHeld ?hy38_ ?rest38_
                case hy38_ =>
                  intro o ho; simp only [List.getElem?_toArray, List.getElem?_cons_succ, List.getElem?_cons_zero, Option.some.injEq] at ho; subst ho; intro w hSw; (try dsimp only at hSw)
                  go_simp
                  try with_reducible rfl
                case rest38_ =>
                try simp only [Act.put, List.setIfInBounds_toArray, List.set_cons_zero, List.set_cons_succ]
                refine onG 23 (some 59) (v := .int .u8 s[n].toNat) (by kernel_rfl) (by kernel_rfl) (by kernel_rfl) (fun _ _ _ h => h) (by rfl) hHeld ?hy39_ ?rest39_
                case hy39_ =>
                  intro o ho; simp only [List.getElem?_toArray, List.getElem?_cons_succ, List.getElem?_cons_zero, Option.some.injEq] at ho; subst ho; intro w hSw; (try dsimp only at hSw)
                  go_simp
                  all_goals (try simp [hwn, hnl])
                case rest39_ =>
                try simp only [Act.put, List.setIfInBounds_toArray, List.set_cons_zero, List.set_cons_succ]
                refine onG 24 (some 60) (v := .bool true) (by kernel_rfl) (by kernel_rfl) (by kernel_rfl) (fun _ _ _ h => h) (by rfl) hHeld ?hy40_ ?rest40_
                case hy40_ =>
                  intro o ho; simp only [List.getElem?_toArray, List.getElem?_cons_succ, List.getElem?_cons_zero, Option.some.injEq] at ho; subst ho; intro w hSw; (try dsimp only at hSw)
                  go_simp
                  all_goals (try simp [hb1])
                case rest40_ =>
                try simp only [Act.put, List.setIfInBounds_toArray, List.set_cons_zero, List.set_cons_succ]
                refine onG 25 (some 61) (v := ?v41_) (by kernel_rfl) (by kernel_rfl) (by kernel_rfl) (fun _ _ _ h => h) (by rfl) hHeld ?hy41_ ?rest41_
                case hy41_ =>
                  intro o ho; simp only [List.getElem?_toArray, List.getElem?_cons_succ, List.getElem?_cons_zero, Option.some.injEq] at ho; subst ho; intro w hSw; (try dsimp only at hSw)
                  go_simp
                  try with_reducible rfl
                case rest41_ =>
                try simp only [Act.put, List.setIfInBounds_toArray, List.set_cons_zero, List.set_cons_succ]
                refine onG 26 (some 62) (v := ?v42_) (by kernel_rfl) (by kernel_rfl) (by kernel_rfl) (fun _ _ _ h => h) (by rfl) hHeld ?hy42_ ?rest42_
                case hy42_ =>
                  intro o ho; simp only [List.getElem?_toArray, List.getElem?_cons_succ, List.getElem?_cons_zero, Option.some.injEq] at ho; subst ho; intro w hSw; (try dsimp only at hSw)
                  go_simp
                  try with_reducible rfl
                case rest42_ =>
                try simp only [Act.put, List.setIfInBounds_toArray, List.set_cons_zero, List.set_cons_succ]
                refine wpAnyH_done (by kernel_rfl) ?_ _
                go_wp2_with fail
                go_ret
                exact ⟨by rw [HF.out]; rfl, by first | exact below_drewN (Below.refl _ _) _ | exact below_drewN (below_drewN (Below.refl _ _) _) _⟩
              · have HL := hidH (show linOk s = true by rw [HE2.out, HED.out, decide_eq_false hsp]; rfl)
                have hb1 : ((s[n].toNat : Int) == 32) = false := beq_eq_false_iff_ne.2 (fun e => hsp (UInt8.toNat_inj.1 (by show s[n].toNat = 32; omega)))
                clear hsp
                go_wp2_with fail
                refine wp_region_held_drew (S := fun w' => w'.cell? ⟨b, off + k, none⟩ = some (.string s)) (by kernel_rfl) hcw (fun hHeld => ?_)
                try dsimp only
                refine onG 0 (some 36) (v := ?v43_) (by kernel_rfl) (by kernel_rfl) (by kernel_rfl) (fun _ _ _ h => h) (by rfl) hHeld ?hy43_ ?rest43_
                case hy43_ =>
                  intro o ho; simp only [List.getElem?_toArray, List.getElem?_cons_zero, Option.some.injEq] at ho; subst ho; intro w hSw; (try dsimp only at hSw)
                  go_simp
                  try with_reducible rfl
                case rest43_ =>
                try simp only [Act.put, List.setIfInBounds_toArray, List.set_cons_zero, List.set_cons_succ]
                refine onG 1 (some 37) (v := ?v44_) (by kernel_rfl) (by kernel_rfl) (by kernel_rfl) (fun _ _ _ h => h) (by rfl) hHeld ?hy44_ ?rest44_
                case hy44_ =>
                  intro o ho; simp only [List.getElem?_toArray, List.getElem?_cons_succ, List.getElem?_cons_zero, Option.some.injEq] at ho; subst ho; intro w hSw; (try dsimp only at hSw)
                  go_simp
                  try with_reducible rfl
                case rest44_ =>
                try simp only [Act.put, List.setIfInBounds_toArray, List.set_cons_zero, List.set_cons_succ]
                refine onG 2 (some 38) (v := ?v45_) (by kernel_rfl) (by kernel_rfl) (by kernel_rfl) (fun _ _ _ h => h) (by rfl) hHeld ?hy45_ ?rest45_
                case hy45_ =>
                  intro o ho; simp only [List.getElem?_toArray, List.getElem?_cons_succ, List.getElem?_cons_zero, Option.some.injEq] at ho; subst ho; intro w hSw; (try dsimp only at hSw)
                  go_simp
                  try with_reducible rfl
                case rest45_ =>
                try simp only [Act.put, List.setIfInBounds_toArray, List.set_cons_zero, List.set_cons_succ]
                refine onG 3 (some 39) (v := ?v46_) (by kernel_rfl) (by kernel_rfl) (by kernel_rfl) (fun _ _ _ h => h) (by rfl) hHeld ?hy46_ ?rest46_
                case hy46_ =>
                  intro o ho; simp only [List.getElem?_toArray, List.getElem?_cons_succ, List.getElem?_cons_zero, Option.some.injEq] at ho; subst ho; intro w hSw; (try dsimp only at hSw)
                  go_simp
                  try with_reducible rfl
                case rest46_ =>
                try simp only [Act.put, List.setIfInBounds_toArray, List.set_cons_zero, List.set_cons_succ]
                refine onG 4 (some 40) (v := ?v47_) (by kernel_rfl) (by kernel_rfl) (by kernel_rfl) (fun _ _ _ h => h) (by rfl) hHeld ?hy47_ ?rest47_
                case hy47_ =>
                  intro o ho; simp only [List.getElem?_toArray, List.getElem?_cons_succ, List.getElem?_cons_zero, Option.some.injEq] at ho; subst ho; intro w hSw; (try dsimp only at hSw)
                  go_simp
                  try with_reducible rfl
                case rest47_ =>
                try simp only [Act.put, List.setIfInBounds_toArray, List.set_cons_zero, List.set_cons_succ]
                refine onG 5 (some 41) (v := .bool false) (by kernel_rfl) (by kernel_rfl) (by kernel_rfl) (fun _ _ _ h => h) (by rfl) hHeld ?hy48_ ?rest48_
                case hy48_ =>
                  intro o ho; simp only [List.getElem?_toArray, List.getElem?_cons_succ, List.getElem?_cons_zero, Option.some.injEq] at ho; subst ho; intro w hSw; (try dsimp only at hSw)
                  go_simp
                  all_goals (try simp [hg]); all_goals (try omega)
                case rest48_ =>
                try simp only [Act.put, List.setIfInBounds_toArray, List.set_cons_zero, List.set_cons_succ]
                refine onG 6 (some 42) (v := ?v49_) (by kernel_rfl) (by kernel_rfl) (by kernel_rfl) (fun _ _ _ h => h) (by rfl) hHeld ?hy49_ ?rest49_
                case hy49_ =>
                  intro o ho; simp only [List.getElem?_toArray, List.getElem?_cons_succ, List.getElem?_cons_zero, Option.some.injEq] at ho; subst ho; intro w hSw; (try dsimp only at hSw)
                  go_simp
                  try with_reducible rfl
                case rest49_ =>
                try simp only [Act.put, List.setIfInBounds_toArray, List.set_cons_zero, List.set_cons_succ]
                refine onG 7 (some 43) (v := ?v50_) (by kernel_rfl) (by kernel_rfl) (by kernel_rfl) (fun _ _ _ h => h) (by rfl) hHeld ?hy50_ ?rest50_
                case hy50_ =>
                  intro o ho; simp only [List.getElem?_toArray, List.getElem?_cons_succ, List.getElem?_cons_zero, Option.some.injEq] at ho; subst ho; intro w hSw; (try dsimp only at hSw)
                  go_simp
                  try with_reducible rfl
                case rest50_ =>
                try simp only [Act.put, List.setIfInBounds_toArray, List.set_cons_zero, List.set_cons_succ]
                refine onG 8 (some 44) (v := ?v51_) (by kernel_rfl) (by kernel_rfl) (by kernel_rfl) (fun _ _ _ h => h) (by rfl) hHeld ?hy51_ ?rest51_
                case hy51_ =>
                  intro o ho; simp only [List.getElem?_toArray, List.getElem?_cons_succ, List.getElem?_cons_zero, Option.some.injEq] at ho; subst ho; intro w hSw; (try dsimp only at hSw)
                  go_simp
                  try with_reducible rfl
                case rest51_ =>
                try simp only [Act.put, List.setIfInBounds_toArray, List.set_cons_zero, List.set_cons_succ]
                refine onG 9 (some 45) (v := ?v52_) (by kernel_rfl) (by kernel_rfl) (by kernel_rfl) (fun _ _ _ h => h) (by rfl) hHeld ?hy52_ ?rest52_
                case hy52_ =>
                  intro o ho; simp only [List.getElem?_toArray, List.getElem?_cons_succ, List.getElem?_cons_zero, Option.some.injEq] at ho; subst ho; intro w hSw; (try dsimp only at hSw)
                  go_simp
                  try with_reducible rfl
                case rest52_ =>
                try simp only [Act.put, List.setIfInBounds_toArray, List.set_cons_zero, List.set_cons_succ]
                refine onG 10 (some 46) (v := ?v53_) (by kernel_rfl) (by kernel_rfl) (by kernel_rfl) (fun _ _ _ h => h) (by rfl) hHeld ?hy53_ ?rest53_
                case hy53_ =>
                  intro o ho; simp only [List.getElem?_toArray, List.getElem?_cons_succ, List.getElem?_cons_zero, Option.some.injEq] at ho; subst ho; intro w hSw; (try dsimp only at hSw)
                  go_simp
                  try with_reducible rfl
                case rest53_ =>
                try simp only [Act.put, List.setIfInBounds_toArray, List.set_cons_zero, List.set_cons_succ]
                refine onG 11 (some 47) (v := .bool true) (by kernel_rfl) (by kernel_rfl) (by kernel_rfl) (fun _ _ _ h => h) (by rfl) hHeld ?hy54_ ?rest54_
                case hy54_ =>
                  intro o ho; simp only [List.getElem?_toArray, List.getElem?_cons_succ, List.getElem?_cons_zero, Option.some.injEq] at ho; subst ho; intro w hSw; (try dsimp only at hSw)
                  go_simp
                  all_goals (try simp [e1, e2, e3])
                case rest54_ =>
                try simp only [Act.put, List.setIfInBounds_toArray, List.set_cons_zero, List.set_cons_succ]
                refine onG 12 (some 48) (v := ?v55_) (by kernel_rfl) (by kernel_rfl) (by kernel_rfl) (fun _ _ _ h => h) (by rfl) hHeld ?hy55_ ?rest55_
                case hy55_ =>
                  intro o ho; simp only [List.getElem?_toArray, List.getElem?_cons_succ, List.getElem?_cons_zero, Option.some.injEq] at ho; subst ho; intro w hSw; (try dsimp only at hSw)
                  go_simp
                  try with_reducible rfl
                case rest55_ =>
                try simp only [Act.put, List.setIfInBounds_toArray, List.set_cons_zero, List.set_cons_succ]
                refine onG 13 (some 49) (v := ?v56_) (by kernel_rfl) (by kernel_rfl) (by kernel_rfl) (fun _ _ _ h => h) (by rfl) hHeld ?hy56_ ?rest56_
                case hy56_ =>
                  intro o ho; simp only [List.getElem?_toArray, List.getElem?_cons_succ, List.getElem?_cons_zero, Option.some.injEq] at ho; subst ho; intro w hSw; (try dsimp only at hSw)
                  go_simp
                  try with_reducible rfl
                case rest56_ =>
                try simp only [Act.put, List.setIfInBounds_toArray, List.set_cons_zero, List.set_cons_succ]
                refine onG 14 (some 50) (v := ?v57_) (by kernel_rfl) (by kernel_rfl) (by kernel_rfl) (fun _ _ _ h => h) (by rfl) hHeld ?hy57_ ?rest57_
                case hy57_ =>
                  intro o ho; simp only [List.getElem?_toArray, List.getElem?_cons_succ, List.getElem?_cons_zero, Option.some.injEq] at ho; subst ho; intro w hSw; (try dsimp only at hSw)
                  go_simp
                  try with_reducible rfl
                case rest57_ =>
                try simp only [Act.put, List.setIfInBounds_toArray, List.set_cons_zero, List.set_cons_succ]
                refine onG 15 (some 51) (v := ?v58_) (by kernel_rfl) (by kernel_rfl) (by kernel_rfl) (fun _ _ _ h => h) (by rfl) hHeld ?hy58_ ?rest58_
                case hy58_ =>
                  intro o ho; simp only [List.getElem?_toArray, List.getElem?_cons_succ, List.getElem?_cons_zero, Option.some.injEq] at ho; subst ho; intro w hSw; (try dsimp only at hSw)
                  go_simp
                  try with_reducible rfl
                case rest58_ =>
                try simp only [Act.put, List.setIfInBounds_toArray, List.set_cons_zero, List.set_cons_succ]
                refine onG 16 (some 52) (v := ?v59_) (by kernel_rfl) (by kernel_rfl) (by kernel_rfl) (fun _ _ _ h => h) (by rfl) hHeld ?hy59_ ?rest59_
                case hy59_ =>
                  intro o ho; simp only [List.getElem?_toArray, List.getElem?_cons_succ, List.getElem?_cons_zero, Option.some.injEq] at ho; subst ho; intro w hSw; (try dsimp only at hSw)
                  go_simp
                  try with_reducible rfl
                case rest59_ =>
                try simp only [Act.put, List.setIfInBounds_toArray, List.set_cons_zero, List.set_cons_succ]
                refine onG 17 (some 53) (v := ?v60_) (by kernel_rfl) (by kernel_rfl) (by kernel_rfl) (fun _ _ _ h => h) (by rfl) hHeld ?hy60_ ?rest60_
                case hy60_ =>
                  intro o ho; simp only [List.getElem?_toArray, List.getElem?_cons_succ, List.getElem?_cons_zero, Option.some.injEq] at ho; subst ho; intro w hSw; (try dsimp only at hSw)
                  go_simp
                  try with_reducible rfl
                case rest60_ =>
                try simp only [Act.put, List.setIfInBounds_toArray, List.set_cons_zero, List.set_cons_succ]
                refine onG 18 (some 54) (v := ?v61_) (by kernel_rfl) (by kernel_rfl) (by kernel_rfl) (fun _ _ _ h => h) (by rfl) hHeld ?hy61_ ?rest61_
                case hy61_ =>
                  intro o ho; simp only [List.getElem?_toArray, List.getElem?_cons_succ, List.getElem?_cons_zero, Option.some.injEq] at ho; subst ho; intro w hSw; (try dsimp only at hSw)
                  go_simp
                  try with_reducible rfl
                case rest61_ =>
                try simp only [Act.put, List.setIfInBounds_toArray, List.set_cons_zero, List.set_cons_succ]
                refine onG 19 (some 55) (v := ?v62_) (by kernel_rfl) (by kernel_rfl) (by kernel_rfl) (fun _ _ _ h => h) (by rfl) hHeld ?hy62_ ?rest62_
                case hy62_ =>
                  intro o ho; simp only [List.getElem?_toArray, List.getElem?_cons_succ, List.getElem?_cons_zero, Option.some.injEq] at ho; subst ho; intro w hSw; (try dsimp only at hSw)
                  go_simp
                  try with_reducible rfl
                case rest62_ =>
                try simp only [Act.put, List.setIfInBounds_toArray, List.set_cons_zero, List.set_cons_succ]
                refine onG 20 (some 56) (v := ?v63_) (by kernel_rfl) (by kernel_rfl) (by kernel_rfl) (fun _ _ _ h => h) (by rfl) hHeld ?hy63_ ?rest63_
                case hy63_ =>
                  intro o ho; simp only [List.getElem?_toArray, List.getElem?_cons_succ, List.getElem?_cons_zero, Option.some.injEq] at ho; subst ho; intro w hSw; (try dsimp only at hSw)
                  go_simp
                  try with_reducible rfl
                case rest63_ =>
                try simp only [Act.put, List.setIfInBounds_toArray, List.set_cons_zero, List.set_cons_succ]
                refine onG 21 (some 57) (v := ?v64_) (by kernel_rfl) (by kernel_rfl) (by kernel_rfl) (fun _ _ _ h => h) (by rfl) hHeld ?hy64_ ?rest64_
                case hy64_ =>
                  intro o ho; simp only [List.getElem?_toArray, List.getElem?_cons_succ, List.getElem?_cons_zero, Option.some.injEq] at ho; subst ho; intro w hSw; (try dsimp only at hSw)
                  go_simp
                  try with_reducible rfl
                case rest64_ =>
                try simp only [Act.put, List.setIfInBounds_toArray, List.set_cons_zero, List.set_cons_succ]
                refine onG 22 (some 58) (v := ?v65_) (by kernel_rfl) (by kernel_rfl) (by kernel_rfl) (fun _ _ _ h => h) (by rfl) hHeld ?hy65_ ?rest65_
                case hy65_ =>
                  intro o ho; simp only [List.getElem?_toArray, List.getElem?_cons_succ, List.getElem?_cons_zero, Option.some.injEq] at ho; subst ho; intro w hSw; (try dsimp only at hSw)
                  go_simp
                  try with_reducible rfl
                case rest65_ =>
                try simp only [Act.put, List.setIfInBounds_toArray, List.set_cons_zero, List.set_cons_succ]
                refine onG 23 (some 59) (v := .int .u8 s[n].toNat) (by kernel_rfl) (by kernel_rfl) (by kernel_rfl) (fun _ _ _ h => h) (by rfl) hHeld ?hy66_ ?rest66_
                case hy66_ =>
                  intro o ho; simp only [List.getElem?_toArray, List.getElem?_cons_succ, List.getElem?_cons_zero, Option.some.injEq] at ho; subst ho; intro w hSw; (try dsimp only at hSw)
                  go_simp
                  all_goals (try simp [hwn, hnl])
                case rest66_ =>
                try simp only [Act.put, List.setIfInBounds_toArray, List.set_cons_zero, List.set_cons_succ]
                refine onG 24 (some 60) (v := .bool false) (by kernel_rfl) (by kernel_rfl) (by kernel_rfl) (fun _ _ _ h => h) (by rfl) hHeld ?hy67_ ?rest67_
                case hy67_ =>
                  intro o ho; simp only [List.getElem?_toArray, List.getElem?_cons_succ, List.getElem?_cons_zero, Option.some.injEq] at ho; subst ho; intro w hSw; (try dsimp only at hSw)
                  go_simp
                  all_goals (try simp [hb1])
                case rest67_ =>
                try simp only [Act.put, List.setIfInBounds_toArray, List.set_cons_zero, List.set_cons_succ]
                refine onG 25 (some 61) (v := ?v68_) (by kernel_rfl) (by kernel_rfl) (by kernel_rfl) (fun _ _ _ h => h) (by rfl) hHeld ?hy68_ ?rest68_
                case hy68_ =>
                  intro o ho; simp only [List.getElem?_toArray, List.getElem?_cons_succ, List.getElem?_cons_zero, Option.some.injEq] at ho; subst ho; intro w hSw; (try dsimp only at hSw)
                  go_simp
                  try with_reducible rfl
                case rest68_ =>
                try simp only [Act.put, List.setIfInBounds_toArray, List.set_cons_zero, List.set_cons_succ]
                refine onG 26 (some 62) (v := ?v69_) (by kernel_rfl) (by kernel_rfl) (by kernel_rfl) (fun _ _ _ h => h) (by rfl) hHeld ?hy69_ ?rest69_
                case hy69_ =>
                  intro o ho; simp only [List.getElem?_toArray, List.getElem?_cons_succ, List.getElem?_cons_zero, Option.some.injEq] at ho; subst ho; intro w hSw; (try dsimp only at hSw)
                  go_simp
                  try with_reducible rfl
                case rest69_ =>
                try simp only [Act.put, List.setIfInBounds_toArray, List.set_cons_zero, List.set_cons_succ]
                refine wpAnyH_done (by kernel_rfl) ?_ _
                go_wp2_with fail
                go_roundw
                case rel =>
                  refine ⟨k + 1, _, by omega, by go_num, fun j d hj hd => ?_, by first | rfl | exact drewN_add _ _ _⟩
                  by_cases e : j = k
                  · subst e
                    rw [HCC.out] at hd
                    injection hd with hd
                    rw [← hd]; exact HL.out
                  · exact HA.out j d (by omega) hd
                case measure => simp [intOf]; omega
          · have HF := hidH (HBF.out (show linOk s = false by rw [HE.out, decide_eq_false h100, Bool.false_and]))
            have hg : 100 < s.size := by omega
            go_wp2_with fail
            refine wp_region_held_drew (S := fun w' => w'.cell? ⟨b, off + k, none⟩ = some (.string s)) (by kernel_rfl) hcw (fun hHeld => ?_)
            try dsimp only
            refine onG 0 (some 36) (v := ?v70_) (by kernel_rfl) (by kernel_rfl) (by kernel_rfl) (fun _ _ _ h => h) (by rfl) hHeld ?hy70_ ?rest70_
            case hy70_ =>
              intro o ho; simp only [List.getElem?_toArray, List.getElem?_cons_zero, Option.some.injEq] at ho; subst ho; intro w hSw; (try dsimp only at hSw)
              go_simp
              try with_reducible rfl
            case rest70_ =>
            try simp only [Act.put, List.setIfInBounds_toArray, List.set_cons_zero, List.set_cons_succ]
            refine onG 1 (some 37) (v := ?v71_) (by kernel_rfl) (by kernel_rfl) (by kernel_rfl) (fun _ _ _ h => h) (by rfl) hHeld ?hy71_ ?rest71_
            case hy71_ =>
              intro o ho; simp only [List.getElem?_toArray, List.getElem?_cons_succ, List.getElem?_cons_zero, Option.some.injEq] at ho; subst ho; intro w hSw; (try dsimp only at hSw)
              go_simp
              try with_reducible rfl
            case rest71_ =>
            try simp only [Act.put, List.setIfInBounds_toArray, List.set_cons_zero, List.set_cons_succ]
            refine onG 2 (some 38) (v := ?v72_) (by kernel_rfl) (by kernel_rfl) (by kernel_rfl) (fun _ _ _ h => h) (by rfl) hHeld ?hy72_ ?rest72_
            case hy72_ =>
              intro o ho; simp only [List.getElem?_toArray, List.getElem?_cons_succ, List.getElem?_cons_zero, Option.some.injEq] at ho; subst ho; intro w hSw; (try dsimp only at hSw)
              go_simp
              try with_reducible rfl
            case rest72_ =>
            try simp only [Act.put, List.setIfInBounds_toArray, List.set_cons_zero, List.set_cons_succ]
            refine onG 3 (some 39) (v := ?v73_) (by kernel_rfl) (by kernel_rfl) (by kernel_rfl) (fun _ _ _ h => h) (by rfl) hHeld ?hy73_ ?rest73_
            case hy73_ =>
              intro o ho; simp only [List.getElem?_toArray, List.getElem?_cons_succ, List.getElem?_cons_zero, Option.some.injEq] at ho; subst ho; intro w hSw; (try dsimp only at hSw)
              go_simp
              try with_reducible rfl
            case rest73_ =>
            try simp only [Act.put, List.setIfInBounds_toArray, List.set_cons_zero, List.set_cons_succ]
            refine onG 4 (some 40) (v := ?v74_) (by kernel_rfl) (by kernel_rfl) (by kernel_rfl) (fun _ _ _ h => h) (by rfl) hHeld ?hy74_ ?rest74_
            case hy74_ =>
              intro o ho; simp only [List.getElem?_toArray, List.getElem?_cons_succ, List.getElem?_cons_zero, Option.some.injEq] at ho; subst ho; intro w hSw; (try dsimp only at hSw)
              go_simp
              try with_reducible rfl
            case rest74_ =>
            try simp only [Act.put, List.setIfInBounds_toArray, List.set_cons_zero, List.set_cons_succ]
            refine onG 5 (some 41) (v := .bool true) (by kernel_rfl) (by kernel_rfl) (by kernel_rfl) (fun _ _ _ h => h) (by rfl) hHeld ?hy75_ ?rest75_
            case hy75_ =>
              intro o ho; simp only [List.getElem?_toArray, List.getElem?_cons_succ, List.getElem?_cons_zero, Option.some.injEq] at ho; subst ho; intro w hSw; (try dsimp only at hSw)
              go_simp
              all_goals (try simp [hg]); all_goals (try omega)
            case rest75_ =>
            try simp only [Act.put, List.setIfInBounds_toArray, List.set_cons_zero, List.set_cons_succ]
            refine onG 6 (some 42) (v := ?v76_) (by kernel_rfl) (by kernel_rfl) (by kernel_rfl) (fun _ _ _ h => h) (by rfl) hHeld ?hy76_ ?rest76_
            case hy76_ =>
              intro o ho; simp only [List.getElem?_toArray, List.getElem?_cons_succ, List.getElem?_cons_zero, Option.some.injEq] at ho; subst ho; intro w hSw; (try dsimp only at hSw)
              go_simp
              try with_reducible rfl
            case rest76_ =>
            try simp only [Act.put, List.setIfInBounds_toArray, List.set_cons_zero, List.set_cons_succ]
            refine offG 7 (some 43) (by kernel_rfl) (by kernel_rfl) (by kernel_rfl) (fun _ _ _ h => h) (by rfl) hHeld ?_
            try simp only [Act.put, List.setIfInBounds_toArray, List.set_cons_zero, List.set_cons_succ]
            refine offG 8 (some 44) (by kernel_rfl) (by kernel_rfl) (by kernel_rfl) (fun _ _ _ h => h) (by rfl) hHeld ?_
            try simp only [Act.put, List.setIfInBounds_toArray, List.set_cons_zero, List.set_cons_succ]
            refine offG 9 (some 45) (by kernel_rfl) (by kernel_rfl) (by kernel_rfl) (fun _ _ _ h => h) (by rfl) hHeld ?_
            try simp only [Act.put, List.setIfInBounds_toArray, List.set_cons_zero, List.set_cons_succ]
            refine offG 10 (some 46) (by kernel_rfl) (by kernel_rfl) (by kernel_rfl) (fun _ _ _ h => h) (by rfl) hHeld ?_
            try simp only [Act.put, List.setIfInBounds_toArray, List.set_cons_zero, List.set_cons_succ]
            refine offG 11 (some 47) (by kernel_rfl) (by kernel_rfl) (by kernel_rfl) (fun _ _ _ h => h) (by rfl) hHeld ?_
            try simp only [Act.put, List.setIfInBounds_toArray, List.set_cons_zero, List.set_cons_succ]
            refine offG 12 (some 48) (by kernel_rfl) (by kernel_rfl) (by kernel_rfl) (fun _ _ _ h => h) (by rfl) hHeld ?_
            try simp only [Act.put, List.setIfInBounds_toArray, List.set_cons_zero, List.set_cons_succ]
            refine offG 13 (some 49) (by kernel_rfl) (by kernel_rfl) (by kernel_rfl) (fun _ _ _ h => h) (by rfl) hHeld ?_
            try simp only [Act.put, List.setIfInBounds_toArray, List.set_cons_zero, List.set_cons_succ]
            refine offG 14 (some 50) (by kernel_rfl) (by kernel_rfl) (by kernel_rfl) (fun _ _ _ h => h) (by rfl) hHeld ?_
            try simp only [Act.put, List.setIfInBounds_toArray, List.set_cons_zero, List.set_cons_succ]
            refine offG 15 (some 51) (by kernel_rfl) (by kernel_rfl) (by kernel_rfl) (fun _ _ _ h => h) (by rfl) hHeld ?_
            try simp only [Act.put, List.setIfInBounds_toArray, List.set_cons_zero, List.set_cons_succ]
            refine offG 16 (some 52) (by kernel_rfl) (by kernel_rfl) (by kernel_rfl) (fun _ _ _ h => h) (by rfl) hHeld ?_
            try simp only [Act.put, List.setIfInBounds_toArray, List.set_cons_zero, List.set_cons_succ]
            refine offG 17 (some 53) (by kernel_rfl) (by kernel_rfl) (by kernel_rfl) (fun _ _ _ h => h) (by rfl) hHeld ?_
            try simp only [Act.put, List.setIfInBounds_toArray, List.set_cons_zero, List.set_cons_succ]
            refine offG 18 (some 54) (by kernel_rfl) (by kernel_rfl) (by kernel_rfl) (fun _ _ _ h => h) (by rfl) hHeld ?_
            try simp only [Act.put, List.setIfInBounds_toArray, List.set_cons_zero, List.set_cons_succ]
            refine offG 19 (some 55) (by kernel_rfl) (by kernel_rfl) (by kernel_rfl) (fun _ _ _ h => h) (by rfl) hHeld ?_
            try simp only [Act.put, List.setIfInBounds_toArray, List.set_cons_zero, List.set_cons_succ]
            refine offG 20 (some 56) (by kernel_rfl) (by kernel_rfl) (by kernel_rfl) (fun _ _ _ h => h) (by rfl) hHeld ?_
            try simp only [Act.put, List.setIfInBounds_toArray, List.set_cons_zero, List.set_cons_succ]
            refine offG 21 (some 57) (by kernel_rfl) (by kernel_rfl) (by kernel_rfl) (fun _ _ _ h => h) (by rfl) hHeld ?_
            try simp only [Act.put, List.setIfInBounds_toArray, List.set_cons_zero, List.set_cons_succ]
            refine offG 22 (some 58) (by kernel_rfl) (by kernel_rfl) (by kernel_rfl) (fun _ _ _ h => h) (by rfl) hHeld ?_
            try simp only [Act.put, List.setIfInBounds_toArray, List.set_cons_zero, List.set_cons_succ]
            refine offG 23 (some 59) (by kernel_rfl) (by kernel_rfl) (by kernel_rfl) (fun _ _ _ h => h) (by rfl) hHeld ?_
            try simp only [Act.put, List.setIfInBounds_toArray, List.set_cons_zero, List.set_cons_succ]
            refine offG 24 (some 60) (by kernel_rfl) (by kernel_rfl) (by kernel_rfl) (fun _ _ _ h => h) (by rfl) hHeld ?_
            try simp only [Act.put, List.setIfInBounds_toArray, List.set_cons_zero, List.set_cons_succ]
            refine offG 25 (some 61) (by kernel_rfl) (by kernel_rfl) (by kernel_rfl) (fun _ _ _ h => h) (by rfl) hHeld ?_
            try simp only [Act.put, List.setIfInBounds_toArray, List.set_cons_zero, List.set_cons_succ]
            refine onG 26 (some 62) (v := ?v77_) (by kernel_rfl) (by kernel_rfl) (by kernel_rfl) (fun _ _ _ h => h) (by rfl) hHeld ?hy77_ ?rest77_
            case hy77_ =>
              intro o ho; simp only [List.getElem?_toArray, List.getElem?_cons_succ, List.getElem?_cons_zero, Option.some.injEq] at ho; subst ho; intro w hSw; (try dsimp only at hSw)
              go_simp
              try with_reducible rfl
            case rest77_ =>
            try simp only [Act.put, List.setIfInBounds_toArray, List.set_cons_zero, List.set_cons_succ]
            refine wpAnyH_done (by kernel_rfl) ?_ _
            go_wp2_with fail
            go_ret
            exact ⟨by rw [HF.out]; rfl, by first | exact below_drewN (Below.refl _ _) _ | exact below_drewN (below_drewN (Below.refl _ _) _) _⟩
    · obtain rfl : k = cs.length := by omega
      have HT := hidH (show cs.all linOk = true from List.all_eq_true.2 fun c hc => by
        obtain ⟨j, hj⟩ := List.getElem?_of_mem hc
        exact HA.out j c (List.getElem?_eq_some_iff.1 hj).1 hj)
      have HE := hidH (show linesOk cs = decide (cs.length ≤ 40) by rw [linesOk, HT.out, Bool.and_true])
      go_wp2_with fail
      go_ret
      rw [HE.out]
      refine ⟨?_, below_drewN (Below.refl _ _) _⟩
      first | rfl | (simp; omega)
end Go.Proofs.YtgafhkjcdddhcaaDoor
