/-
  PlanValid: the model, at every argument. No conditions but that slices fit in memory.
-/
import Derived.Test.YteacpfejjphabaaPlnD
import Derived.Test.YteacpfejjphabaaIn
import Derived.Test.YteacpfejjphabaaHeld
namespace Go.Proofs.Yteacpfejjphabaa
set_option maxRecDepth 4000
open Go.RowKit
def cntS (s : Int × List Int) : Bool := decide ((1 : Int) ≤ s.1 ∧ s.1 ≤ 60)
def totN (cs : List (Int × List Int)) : Nat := (cs.map fun s => s.1.toNat).sum
/-- What the model's length of a plan answers. -/
def lenM (cs : List (Int × List Int)) : Int := if cs.all cntS then (totN cs : Int) else -1
theorem totN_snoc (cs : List (Int × List Int)) (k : Nat) (s : Int × List Int) (h : cs[k]? = some s) : totN (cs.take (k + 1)) = totN (cs.take k) + s.1.toNat := by
  unfold totN
  rw [List.take_add_one, h, List.map_append, List.sum_append]
  simp
theorem planL_tot (cs : List (Int × List Int)) : (planL cs).length = totN cs := by
  unfold planL totN
  rw [List.length_flatMap]
  congr 1
  apply List.map_congr_left
  intro s _
  exact segV_length s
theorem totN_ge (cs : List (Int × List Int)) (h : cs.all cntS = true) : cs.length ≤ totN cs := by
  induction cs with
  | nil => simp
  | cons s cs ih =>
    rw [List.all_cons, Bool.and_eq_true] at h
    have h1 := of_decide_eq_true h.1
    have := ih h.2
    simp only [totN, List.map_cons, List.sum_cons, List.length_cons] at this ⊢
    omega
theorem segOk_cnt {cs : List (Int × List Int)} (h : cs.all segOk = true) : cs.all cntS = true := List.all_eq_true.2 fun s hs => by
  have ⟨_, a, b, _⟩ := segOk_parts (List.all_eq_true.1 h s hs)
  exact decide_eq_true ⟨a, b⟩
theorem planOk_parts {cs : List (Int × List Int)} (h : planOk cs = true) : 1 ≤ cs.length ∧ cs.length ≤ 60 ∧ cs.all segOk = true ∧ cs.all cntS = true ∧ totN cs ≤ 60 := by
  simp only [planOk, Bool.and_eq_true, decide_eq_true_eq] at h
  obtain ⟨h1, h2, h3⟩ := h
  have hc := segOk_cnt h2
  have := totN_ge cs hc
  rw [planL_tot] at h3
  exact ⟨h1, by omega, h2, hc, h3⟩
theorem planOk_many {cs : List (Int × List Int)} (h : 60 < cs.length) : planOk cs = false := by
  cases e : planOk cs
  · rfl
  · have := (planOk_parts e).2.1; omega
theorem planOk_tot {cs : List (Int × List Int)} (h : ¬ (1 ≤ lenM cs ∧ lenM cs ≤ 60)) : planOk cs = false := by
  cases e : planOk cs
  · rfl
  · obtain ⟨h1, _, _, hc, h2⟩ := planOk_parts e
    have := totN_ge cs hc
    exact absurd (by rw [lenM, hc, if_pos rfl]; omega) h
theorem planOk_of {cs : List (Int × List Int)} (h : 1 ≤ lenM cs ∧ lenM cs ≤ 60) (hok : okTo cs cs.length) : planOk cs = true := by
  have hs := okTo_all hok
  have hc := segOk_cnt hs
  rw [lenM, hc, if_pos rfl] at h
  have hl := planL_tot cs
  have : 1 ≤ cs.length := by
    rcases Nat.eq_zero_or_pos cs.length with e | e
    · rw [List.eq_nil_of_length_eq_zero e] at h; simp [totN] at h
    · exact e
  unfold planOk
  rw [hs, decide_eq_true this, decide_eq_true (show (planL cs).length ≤ 60 by omega)]; rfl
theorem lenM_cnt {cs : List (Int × List Int)} (h : 1 ≤ lenM cs) : cs.all cntS = true := by
  cases e : cs.all cntS
  · rw [lenM, e] at h; simp at h
  · rfl
def cntTo (cs : List (Int × List Int)) (k : Nat) : Prop := ∀ j s, j < k → cs[j]? = some s → cntS s = true
theorem cntTo_all {cs : List (Int × List Int)} (h : cntTo cs cs.length) : cs.all cntS = true := List.all_eq_true.2 fun s hs => by
  obtain ⟨j, hj⟩ := List.getElem?_of_mem hs
  exact h j s (List.getElem?_eq_some_iff.1 hj).1 hj
theorem cntTo_next {cs : List (Int × List Int)} {k : Nat} {s : Int × List Int} (h : cntTo cs k) (hk : cs[k]? = some s) (hs : cntS s = true) : cntTo cs (k + 1) := fun j t hj ht => by
  by_cases e : j = k
  · subst e
    rw [hk] at ht
    injection ht with ht
    subst ht; exact hs
  · exact h j t (by omega) ht
theorem lenM_bad {cs : List (Int × List Int)} {k : Nat} {s : Int × List Int} (h : cs[k]? = some s) (hs : cntS s = false) : lenM cs = -1 := by
  have : cs.all cntS = false := by
    cases e : cs.all cntS
    · rfl
    · rw [List.all_eq_true.1 e s (List.mem_of_getElem? h)] at hs; cases hs
  rw [lenM, this]; rfl
set_option maxHeartbeats 800000 in
theorem sPlanLen_any (v : Value) (cs : List (Int × List Int)) (w : World) (h1 : Nat) (hv : LiesSg w h1 v cs) (hn : cs.length ≤ 1048576) : Calls Try.prog 27 #[v] w (Gives (.int .i64 (lenM cs)) w) := by
  have HV := hidH hv
  obtain ⟨a, cap, rfl, hlc, hcm⟩ := hv.len
  unfold maxLen at hcm
  clear hv
  go_enter Try.func27, Try.ntmps27
  go_wp2_with fail
  go_loopw [3, 4] (fun m i wr => ∃ k : Nat, k ≤ cs.length ∧ i = .int .i64 k ∧ m = .int .i64 (totN (cs.take k) : Nat) ∧ totN (cs.take k) ≤ 60 * k ∧ cntTo cs k ∧ Below w.heap.size w wr) (fun _ i _ => cs.length - (intOf i).toNat)
  case atStart => exact ⟨0, Nat.zero_le _, rfl, by simp [totN], by simp [totN], (fun _ _ h => absurd h (Nat.not_lt_zero _)), Below.refl _ _⟩
  case round =>
    obtain ⟨k, hk, rfl, rfl, h60, hct, hb⟩ := hrel
    have HCT := hidH hct
    have HB := hidH hb
    clear hct hb
    by_cases hlt : k < cs.length
    · obtain ⟨b, off, cc1, e, _, _, _, hcl⟩ := HV.out.addr (by omega)
      injection e with e1 e2 e3
      subst e1; subst e3
      obtain ⟨x, hx⟩ : ∃ x, cs[k]? = some x := ⟨cs[k], List.getElem?_eq_getElem hlt⟩
      obtain ⟨c, zs⟩ := x
      obtain ⟨p, q0, q1, q2⟩ := hcl k c zs hx
      have c0 : wr.cell? ⟨b, off + k * 2, none⟩ = some (.int .i64 c) := by rw [HB.out.cell (p := ⟨b, off + k * 2, none⟩) (cell_blk _ _ _ q0)]; exact q0
      have c1 : wr.cell? ⟨b, off + k * 2 + 1, none⟩ = some p := by rw [HB.out.cell (p := ⟨b, off + k * 2 + 1, none⟩) (cell_blk _ _ _ q1)]; exact q1
      have HP := hidH (q2.below HB.out)
      have HX := hidH hx
      obtain ⟨pa0, pc0, rfl⟩ := q2.some
      clear hcl q0 q1 q2 hx
      have HSN := hidH (totN_snoc cs k (c, zs) HX.out)
      generalize hpl : totN (cs.take k) = n at *
      have HPL := hidH hpl
      clear hpl
      go_wp2_with fail
      refine (sIn_any c 1 60 (cntS (c, zs)) rfl _).mono ?_; rintro e w5 ⟨rfl, rfl⟩
      cases hcn : cntS (c, zs)
      · have HF := hidH (lenM_bad HX.out hcn)
        clear hcn
        go_wp2_with fail
        go_ret
        rw [HF.out]
        exact ⟨rfl, HB.out⟩
      · have ⟨d1, d2⟩ := of_decide_eq_true (show decide ((1 : Int) ≤ c ∧ c ≤ 60) = true from hcn)
        have HCN := hidH (cntTo_next HCT.out HX.out hcn)
        clear hcn
        go_wp2_with fail
        go_roundw
        case rel => exact ⟨k + 1, by omega, by go_num, by rw [HSN.out]; show Value.int .i64 _ = Value.int .i64 _; congr 1; show (n : Int) + c = ((n + c.toNat : Nat) : Int); omega, by rw [HSN.out]; show n + c.toNat ≤ _; omega, HCN.out, HB.out⟩
        case measure => simp [intOf]; omega
    · obtain rfl : k = cs.length := by omega
      have HE := hidH (show lenM cs = (totN cs : Int) by rw [lenM, cntTo_all HCT.out]; rfl)
      rw [List.take_length] at h60 ⊢
      go_wp2_with fail
      go_ret
      rw [HE.out]
      exact ⟨rfl, HB.out⟩
set_option maxHeartbeats 1600000 in
theorem sPlanValid_any (v : Value) (cs : List (Int × List Int)) (w : World) (h1 : Nat) (hv : LiesSg w h1 v cs) (hn : cs.length ≤ 1048576) : Calls Try.prog 9 #[v] w (Gives (.bool (planOk cs)) w) := by
  have HV := hidH hv
  have HLN := hidH (sPlanLen_any v cs w h1 hv hn)
  obtain ⟨a, cap, rfl, hlc, hcm⟩ := hv.len
  unfold maxLen at hcm
  clear hv
  by_cases hbig : 60 < cs.length
  · rw [planOk_many hbig]
    go_enter Try.func9, Try.ntmps9
    go_wp2_with fail
    go_ret
    exact ⟨rfl, Below.refl _ _⟩
  · by_cases hin : 1 ≤ lenM cs ∧ lenM cs ≤ 60
    · have HIN := hidH (fun W => sIn_any (lenM cs) 1 60 true (decide_eq_true hin) W)
      have HCN := hidH (lenM_cnt hin.1)
      have HI := hidH hin
      generalize hlm : lenM cs = lm at *
      have HLM := hidH hlm
      clear hin hlm
      go_enter Try.func9, Try.ntmps9
      go_wp2_with fail
      refine HLN.out.mono ?_; rintro e w1 ⟨rfl, hb⟩
      have B1 := hidH hb
      clear hb
      go_wp2_with fail
      refine (HIN.out _).mono ?_; rintro e w_ ⟨rfl, rfl⟩
      go_wp2_with fail
      go_loopw [3] (fun i wr => ∃ k : Nat, k ≤ cs.length ∧ i = .int .i64 k ∧ okTo cs k ∧ Below w.heap.size w wr) (fun i _ => cs.length - (intOf i).toNat)
      case atStart => exact ⟨0, Nat.zero_le _, rfl, (fun _ _ h => absurd h (Nat.not_lt_zero _)), B1.out⟩
      case round =>
        obtain ⟨k, hk, rfl, hok, hb⟩ := hrel
        have HOK := hidH hok
        have HB := hidH hb
        clear hok hb
        by_cases hlt : k < cs.length
        · obtain ⟨b, off, cc1, e, _, _, _, hcl⟩ := HV.out.addr (by omega)
          injection e with e1 e2 e3
          subst e1; subst e3
          obtain ⟨x, hx⟩ : ∃ x, cs[k]? = some x := ⟨cs[k], List.getElem?_eq_getElem hlt⟩
          obtain ⟨c, zs⟩ := x
          obtain ⟨p, q0, q1, q2⟩ := hcl k c zs hx
          have c0 : wr.cell? ⟨b, off + k * 2, none⟩ = some (.int .i64 c) := by rw [HB.out.cell (p := ⟨b, off + k * 2, none⟩) (cell_blk _ _ _ q0)]; exact q0
          have c1 : wr.cell? ⟨b, off + k * 2 + 1, none⟩ = some p := by rw [HB.out.cell (p := ⟨b, off + k * 2 + 1, none⟩) (cell_blk _ _ _ q1)]; exact q1
          have HP := hidH (q2.below HB.out)
          have HX := hidH hx
          obtain ⟨pa0, pc0, rfl⟩ := q2.some
          clear hcl q0 q1 q2 hx
          have ⟨d1, d2⟩ := of_decide_eq_true (show decide ((1 : Int) ≤ c ∧ c ≤ 60) = true from List.all_eq_true.1 HCN.out (c, zs) (List.mem_of_getElem? HX.out))
          obtain ⟨m, rfl⟩ := Int.eq_ofNat_of_zero_le (show 0 ≤ c by omega)
          cases hp : polyOk zs
          · have HF := hidH (planOk_bad HX.out (show segOk ((m : Int), zs) = false by rw [segOk]; show (polyOk zs && _) = false; rw [hp]; rfl))
            have HPV := hidH (fun W (hl : Lies W 0 h1 (.slice pa0 zs.length pc0) zs) => sPolyValid_any _ zs W 0 h1 hl)
            rw [hp] at HPV
            clear hp
            rw [HF.out]
            go_wp2_with fail
            refine wp_region_held_drew (S := fun w' => w'.cell? ⟨b, off + k * 2, none⟩ = some (.int .i64 m) ∧ w'.cell? ⟨b, off + k * 2 + 1, none⟩ = some (.slice pa0 zs.length pc0)) (by kernel_rfl) ⟨c0, c1⟩ (fun hHeld => ?_)
            try dsimp only
            refine onG 0 (some 19) (v := ?v1_) (by kernel_rfl) (by kernel_rfl) (by kernel_rfl) (fun _ _ _ h => h) (by rfl) hHeld ?hy1_ ?rest1_
            case hy1_ =>
              intro o ho; simp only [List.getElem?_toArray, List.getElem?_cons_zero, Option.some.injEq] at ho; subst ho; intro w hSw; (try dsimp only at hSw)
              go_simp
              try with_reducible rfl
            case rest1_ =>
            try simp only [Act.put, List.setIfInBounds_toArray, List.set_cons_zero, List.set_cons_succ]
            refine onG 1 (some 20) (v := ?v2_) (by kernel_rfl) (by kernel_rfl) (by kernel_rfl) (fun _ _ _ h => h) (by rfl) hHeld ?hy2_ ?rest2_
            case hy2_ =>
              intro o ho; simp only [List.getElem?_toArray, List.getElem?_cons_succ, List.getElem?_cons_zero, Option.some.injEq] at ho; subst ho; intro w hSw; (try dsimp only at hSw)
              go_simp
              try with_reducible rfl
            case rest2_ =>
            try simp only [Act.put, List.setIfInBounds_toArray, List.set_cons_zero, List.set_cons_succ]
            refine onG 2 (some 21) (v := ?v3_) (by kernel_rfl) (by kernel_rfl) (by kernel_rfl) (fun _ _ _ h => h) (by rfl) hHeld ?hy3_ ?rest3_
            case hy3_ =>
              intro o ho; simp only [List.getElem?_toArray, List.getElem?_cons_succ, List.getElem?_cons_zero, Option.some.injEq] at ho; subst ho; intro w hSw; (try dsimp only at hSw)
              go_simp
              try with_reducible rfl
            case rest3_ =>
            try simp only [Act.put, List.setIfInBounds_toArray, List.set_cons_zero, List.set_cons_succ]
            refine onG 3 (some 22) (v := ?v4_) (by kernel_rfl) (by kernel_rfl) (by kernel_rfl) (fun _ _ _ h => h) (by rfl) hHeld ?hy4_ ?rest4_
            case hy4_ =>
              intro o ho; simp only [List.getElem?_toArray, List.getElem?_cons_succ, List.getElem?_cons_zero, Option.some.injEq] at ho; subst ho; intro w hSw; (try dsimp only at hSw)
              go_simp
              try with_reducible rfl
            case rest4_ =>
            try simp only [Act.put, List.setIfInBounds_toArray, List.set_cons_zero, List.set_cons_succ]
            refine onG 4 (some 23) (v := ?v5_) (by kernel_rfl) (by kernel_rfl) (by kernel_rfl) (fun _ _ _ h => h) (by rfl) hHeld ?hy5_ ?rest5_
            case hy5_ =>
              intro o ho; simp only [List.getElem?_toArray, List.getElem?_cons_succ, List.getElem?_cons_zero, Option.some.injEq] at ho; subst ho; intro w hSw; (try dsimp only at hSw)
              go_simp
              try with_reducible rfl
            case rest5_ =>
            try simp only [Act.put, List.setIfInBounds_toArray, List.set_cons_zero, List.set_cons_succ]
            refine callG 5 (by kernel_rfl) ?_
            intro o ho; simp only [List.getElem?_toArray, List.getElem?_cons_succ, List.getElem?_cons_zero, Option.some.injEq] at ho; subst ho; intro K hK
            go_simp
            go_at_call 28
            (with_reducible refine (HPV.out _ (HP.out.below (Below.refl _ _).drew)).mono ?_)
            rintro e wd ⟨rfl, rfl⟩
            (clear hHeld)
            go_wp2_with fail
            refine hK.out _ _ ?_ (fun hHeld => ?_)
            · exact ⟨c0, c1⟩
            clear hK K
            try simp only [Act.put, List.setIfInBounds_toArray, List.set_cons_zero, List.set_cons_succ]
            refine onG 6 (some 25) (v := ?v6_) (by kernel_rfl) (by kernel_rfl) (by kernel_rfl) (fun _ _ _ h => h) (by rfl) hHeld ?hy6_ ?rest6_
            case hy6_ =>
              intro o ho; simp only [List.getElem?_toArray, List.getElem?_cons_succ, List.getElem?_cons_zero, Option.some.injEq] at ho; subst ho; intro w hSw; (try dsimp only at hSw)
              go_simp
              try with_reducible rfl
            case rest6_ =>
            try simp only [Act.put, List.setIfInBounds_toArray, List.set_cons_zero, List.set_cons_succ]
            refine onG 7 (some 26) (v := ?v7_) (by kernel_rfl) (by kernel_rfl) (by kernel_rfl) (fun _ _ _ h => h) (by rfl) hHeld ?hy7_ ?rest7_
            case hy7_ =>
              intro o ho; simp only [List.getElem?_toArray, List.getElem?_cons_succ, List.getElem?_cons_zero, Option.some.injEq] at ho; subst ho; intro w hSw; (try dsimp only at hSw)
              go_simp
              try with_reducible rfl
            case rest7_ =>
            try simp only [Act.put, List.setIfInBounds_toArray, List.set_cons_zero, List.set_cons_succ]
            refine offG 8 (some 27) (by kernel_rfl) (by kernel_rfl) (by kernel_rfl) (fun _ _ _ h => h) (by rfl) hHeld ?_
            try simp only [Act.put, List.setIfInBounds_toArray, List.set_cons_zero, List.set_cons_succ]
            refine offG 9 (some 28) (by kernel_rfl) (by kernel_rfl) (by kernel_rfl) (fun _ _ _ h => h) (by rfl) hHeld ?_
            try simp only [Act.put, List.setIfInBounds_toArray, List.set_cons_zero, List.set_cons_succ]
            refine offG 10 (some 29) (by kernel_rfl) (by kernel_rfl) (by kernel_rfl) (fun _ _ _ h => h) (by rfl) hHeld ?_
            try simp only [Act.put, List.setIfInBounds_toArray, List.set_cons_zero, List.set_cons_succ]
            refine offG 11 (some 30) (by kernel_rfl) (by kernel_rfl) (by kernel_rfl) (fun _ _ _ h => h) (by rfl) hHeld ?_
            try simp only [Act.put, List.setIfInBounds_toArray, List.set_cons_zero, List.set_cons_succ]
            refine offG 12 (some 31) (by kernel_rfl) (by kernel_rfl) (by kernel_rfl) (fun _ _ _ h => h) (by rfl) hHeld ?_
            try simp only [Act.put, List.setIfInBounds_toArray, List.set_cons_zero, List.set_cons_succ]
            refine offG 13 (some 32) (by kernel_rfl) (by kernel_rfl) (by kernel_rfl) (fun _ _ _ h => h) (by rfl) hHeld ?_
            try simp only [Act.put, List.setIfInBounds_toArray, List.set_cons_zero, List.set_cons_succ]
            refine offG 14 (some 33) (by kernel_rfl) (by kernel_rfl) (by kernel_rfl) (fun _ _ _ h => h) (by rfl) hHeld ?_
            try simp only [Act.put, List.setIfInBounds_toArray, List.set_cons_zero, List.set_cons_succ]
            refine offG 15 (some 34) (by kernel_rfl) (by kernel_rfl) (by kernel_rfl) (fun _ _ _ h => h) (by rfl) hHeld ?_
            try simp only [Act.put, List.setIfInBounds_toArray, List.set_cons_zero, List.set_cons_succ]
            refine offG 16 (some 35) (by kernel_rfl) (by kernel_rfl) (by kernel_rfl) (fun _ _ _ h => h) (by rfl) hHeld ?_
            try simp only [Act.put, List.setIfInBounds_toArray, List.set_cons_zero, List.set_cons_succ]
            refine offG 17 (some 36) (by kernel_rfl) (by kernel_rfl) (by kernel_rfl) (fun _ _ _ h => h) (by rfl) hHeld ?_
            try simp only [Act.put, List.setIfInBounds_toArray, List.set_cons_zero, List.set_cons_succ]
            refine offG 18 (some 37) (by kernel_rfl) (by kernel_rfl) (by kernel_rfl) (fun _ _ _ h => h) (by rfl) hHeld ?_
            try simp only [Act.put, List.setIfInBounds_toArray, List.set_cons_zero, List.set_cons_succ]
            refine offG 19 (some 38) (by kernel_rfl) (by kernel_rfl) (by kernel_rfl) (fun _ _ _ h => h) (by rfl) hHeld ?_
            try simp only [Act.put, List.setIfInBounds_toArray, List.set_cons_zero, List.set_cons_succ]
            refine offG 20 (some 39) (by kernel_rfl) (by kernel_rfl) (by kernel_rfl) (fun _ _ _ h => h) (by rfl) hHeld ?_
            try simp only [Act.put, List.setIfInBounds_toArray, List.set_cons_zero, List.set_cons_succ]
            refine onG 21 (some 40) (v := ?v8_) (by kernel_rfl) (by kernel_rfl) (by kernel_rfl) (fun _ _ _ h => h) (by rfl) hHeld ?hy8_ ?rest8_
            case hy8_ =>
              intro o ho; simp only [List.getElem?_toArray, List.getElem?_cons_succ, List.getElem?_cons_zero, Option.some.injEq] at ho; subst ho; intro w hSw; (try dsimp only at hSw)
              go_simp
              try with_reducible rfl
            case rest8_ =>
            try simp only [Act.put, List.setIfInBounds_toArray, List.set_cons_zero, List.set_cons_succ]
            refine wpAnyH_done (by kernel_rfl) ?_ _
            go_wp2_with fail
            go_ret
            exact ⟨rfl, HB.out.drew⟩
          · have HPV := hidH (fun W (hl : Lies W 0 h1 (.slice pa0 zs.length pc0) zs) => sPolyValid_any _ zs W 0 h1 hl)
            rw [hp] at HPV
            have HSM := hidH (polyOk_small zs hp).2
            have HVV := hidH (fun W (hl : Lies W 0 h1 (.slice pa0 zs.length pc0) zs) => sValues_any (.slice pa0 zs.length pc0) zs 0 1 m W 0 h1 hl HSM.out (by omega) (by omega) (fun i hi => by omega))
            cases ht : tableOk (valsS zs 0 1 m)
            · have HTO := hidH ht
              have HF := hidH (planOk_bad HX.out (show segOk ((m : Int), zs) = false by rw [segOk]; show (polyOk zs && (decide ((1 : Int) ≤ (m : Int) ∧ (m : Int) ≤ 60) && tableOk (vals zs 0 m))) = false; rw [← valsS_one, ht, Bool.and_false, Bool.and_false]))
              rw [HF.out]
              clear hp ht
              go_wp2_with fail
              refine wp_region_held_drew (S := fun w' => w'.cell? ⟨b, off + k * 2, none⟩ = some (.int .i64 m) ∧ w'.cell? ⟨b, off + k * 2 + 1, none⟩ = some (.slice pa0 zs.length pc0)) (by kernel_rfl) ⟨c0, c1⟩ (fun hHeld => ?_)
              try dsimp only
              refine onG 0 (some 19) (v := ?v9_) (by kernel_rfl) (by kernel_rfl) (by kernel_rfl) (fun _ _ _ h => h) (by rfl) hHeld ?hy9_ ?rest9_
              case hy9_ =>
                intro o ho; simp only [List.getElem?_toArray, List.getElem?_cons_zero, Option.some.injEq] at ho; subst ho; intro w hSw; (try dsimp only at hSw)
                go_simp
                try with_reducible rfl
              case rest9_ =>
              try simp only [Act.put, List.setIfInBounds_toArray, List.set_cons_zero, List.set_cons_succ]
              refine onG 1 (some 20) (v := ?v10_) (by kernel_rfl) (by kernel_rfl) (by kernel_rfl) (fun _ _ _ h => h) (by rfl) hHeld ?hy10_ ?rest10_
              case hy10_ =>
                intro o ho; simp only [List.getElem?_toArray, List.getElem?_cons_succ, List.getElem?_cons_zero, Option.some.injEq] at ho; subst ho; intro w hSw; (try dsimp only at hSw)
                go_simp
                try with_reducible rfl
              case rest10_ =>
              try simp only [Act.put, List.setIfInBounds_toArray, List.set_cons_zero, List.set_cons_succ]
              refine onG 2 (some 21) (v := ?v11_) (by kernel_rfl) (by kernel_rfl) (by kernel_rfl) (fun _ _ _ h => h) (by rfl) hHeld ?hy11_ ?rest11_
              case hy11_ =>
                intro o ho; simp only [List.getElem?_toArray, List.getElem?_cons_succ, List.getElem?_cons_zero, Option.some.injEq] at ho; subst ho; intro w hSw; (try dsimp only at hSw)
                go_simp
                try with_reducible rfl
              case rest11_ =>
              try simp only [Act.put, List.setIfInBounds_toArray, List.set_cons_zero, List.set_cons_succ]
              refine onG 3 (some 22) (v := ?v12_) (by kernel_rfl) (by kernel_rfl) (by kernel_rfl) (fun _ _ _ h => h) (by rfl) hHeld ?hy12_ ?rest12_
              case hy12_ =>
                intro o ho; simp only [List.getElem?_toArray, List.getElem?_cons_succ, List.getElem?_cons_zero, Option.some.injEq] at ho; subst ho; intro w hSw; (try dsimp only at hSw)
                go_simp
                try with_reducible rfl
              case rest12_ =>
              try simp only [Act.put, List.setIfInBounds_toArray, List.set_cons_zero, List.set_cons_succ]
              refine onG 4 (some 23) (v := ?v13_) (by kernel_rfl) (by kernel_rfl) (by kernel_rfl) (fun _ _ _ h => h) (by rfl) hHeld ?hy13_ ?rest13_
              case hy13_ =>
                intro o ho; simp only [List.getElem?_toArray, List.getElem?_cons_succ, List.getElem?_cons_zero, Option.some.injEq] at ho; subst ho; intro w hSw; (try dsimp only at hSw)
                go_simp
                try with_reducible rfl
              case rest13_ =>
              try simp only [Act.put, List.setIfInBounds_toArray, List.set_cons_zero, List.set_cons_succ]
              refine callG 5 (by kernel_rfl) ?_
              intro o ho; simp only [List.getElem?_toArray, List.getElem?_cons_succ, List.getElem?_cons_zero, Option.some.injEq] at ho; subst ho; intro K hK
              go_simp
              go_at_call 28
              (with_reducible refine (HPV.out _ (HP.out.below (Below.refl _ _).drew)).mono ?_)
              rintro e wd ⟨rfl, rfl⟩
              (clear hHeld)
              go_wp2_with fail
              refine hK.out _ _ ?_ (fun hHeld => ?_)
              · exact ⟨c0, c1⟩
              clear hK K
              try simp only [Act.put, List.setIfInBounds_toArray, List.set_cons_zero, List.set_cons_succ]
              refine onG 6 (some 25) (v := ?v14_) (by kernel_rfl) (by kernel_rfl) (by kernel_rfl) (fun _ _ _ h => h) (by rfl) hHeld ?hy14_ ?rest14_
              case hy14_ =>
                intro o ho; simp only [List.getElem?_toArray, List.getElem?_cons_succ, List.getElem?_cons_zero, Option.some.injEq] at ho; subst ho; intro w hSw; (try dsimp only at hSw)
                go_simp
                try with_reducible rfl
              case rest14_ =>
              try simp only [Act.put, List.setIfInBounds_toArray, List.set_cons_zero, List.set_cons_succ]
              refine onG 7 (some 26) (v := ?v15_) (by kernel_rfl) (by kernel_rfl) (by kernel_rfl) (fun _ _ _ h => h) (by rfl) hHeld ?hy15_ ?rest15_
              case hy15_ =>
                intro o ho; simp only [List.getElem?_toArray, List.getElem?_cons_succ, List.getElem?_cons_zero, Option.some.injEq] at ho; subst ho; intro w hSw; (try dsimp only at hSw)
                go_simp
                try with_reducible rfl
              case rest15_ =>
              try simp only [Act.put, List.setIfInBounds_toArray, List.set_cons_zero, List.set_cons_succ]
              refine onG 8 (some 27) (v := ?v16_) (by kernel_rfl) (by kernel_rfl) (by kernel_rfl) (fun _ _ _ h => h) (by rfl) hHeld ?hy16_ ?rest16_
              case hy16_ =>
                intro o ho; simp only [List.getElem?_toArray, List.getElem?_cons_succ, List.getElem?_cons_zero, Option.some.injEq] at ho; subst ho; intro w hSw; (try dsimp only at hSw)
                go_simp
                try with_reducible rfl
              case rest16_ =>
              try simp only [Act.put, List.setIfInBounds_toArray, List.set_cons_zero, List.set_cons_succ]
              refine onG 9 (some 28) (v := ?v17_) (by kernel_rfl) (by kernel_rfl) (by kernel_rfl) (fun _ _ _ h => h) (by rfl) hHeld ?hy17_ ?rest17_
              case hy17_ =>
                intro o ho; simp only [List.getElem?_toArray, List.getElem?_cons_succ, List.getElem?_cons_zero, Option.some.injEq] at ho; subst ho; intro w hSw; (try dsimp only at hSw)
                go_simp
                try with_reducible rfl
              case rest17_ =>
              try simp only [Act.put, List.setIfInBounds_toArray, List.set_cons_zero, List.set_cons_succ]
              refine onG 10 (some 29) (v := ?v18_) (by kernel_rfl) (by kernel_rfl) (by kernel_rfl) (fun _ _ _ h => h) (by rfl) hHeld ?hy18_ ?rest18_
              case hy18_ =>
                intro o ho; simp only [List.getElem?_toArray, List.getElem?_cons_succ, List.getElem?_cons_zero, Option.some.injEq] at ho; subst ho; intro w hSw; (try dsimp only at hSw)
                go_simp
                try with_reducible rfl
              case rest18_ =>
              try simp only [Act.put, List.setIfInBounds_toArray, List.set_cons_zero, List.set_cons_succ]
              refine onG 11 (some 30) (v := ?v19_) (by kernel_rfl) (by kernel_rfl) (by kernel_rfl) (fun _ _ _ h => h) (by rfl) hHeld ?hy19_ ?rest19_
              case hy19_ =>
                intro o ho; simp only [List.getElem?_toArray, List.getElem?_cons_succ, List.getElem?_cons_zero, Option.some.injEq] at ho; subst ho; intro w hSw; (try dsimp only at hSw)
                go_simp
                try with_reducible rfl
              case rest19_ =>
              try simp only [Act.put, List.setIfInBounds_toArray, List.set_cons_zero, List.set_cons_succ]
              refine onG 12 (some 31) (v := ?v20_) (by kernel_rfl) (by kernel_rfl) (by kernel_rfl) (fun _ _ _ h => h) (by rfl) hHeld ?hy20_ ?rest20_
              case hy20_ =>
                intro o ho; simp only [List.getElem?_toArray, List.getElem?_cons_succ, List.getElem?_cons_zero, Option.some.injEq] at ho; subst ho; intro w hSw; (try dsimp only at hSw)
                go_simp
                try with_reducible rfl
              case rest20_ =>
              try simp only [Act.put, List.setIfInBounds_toArray, List.set_cons_zero, List.set_cons_succ]
              refine onG 13 (some 32) (v := ?v21_) (by kernel_rfl) (by kernel_rfl) (by kernel_rfl) (fun _ _ _ h => h) (by rfl) hHeld ?hy21_ ?rest21_
              case hy21_ =>
                intro o ho; simp only [List.getElem?_toArray, List.getElem?_cons_succ, List.getElem?_cons_zero, Option.some.injEq] at ho; subst ho; intro w hSw; (try dsimp only at hSw)
                go_simp
                try with_reducible rfl
              case rest21_ =>
              try simp only [Act.put, List.setIfInBounds_toArray, List.set_cons_zero, List.set_cons_succ]
              refine onG 14 (some 33) (v := ?v22_) (by kernel_rfl) (by kernel_rfl) (by kernel_rfl) (fun _ _ _ h => h) (by rfl) hHeld ?hy22_ ?rest22_
              case hy22_ =>
                intro o ho; simp only [List.getElem?_toArray, List.getElem?_cons_succ, List.getElem?_cons_zero, Option.some.injEq] at ho; subst ho; intro w hSw; (try dsimp only at hSw)
                go_simp
                try with_reducible rfl
              case rest22_ =>
              try simp only [Act.put, List.setIfInBounds_toArray, List.set_cons_zero, List.set_cons_succ]
              refine onG 15 (some 34) (v := ?v23_) (by kernel_rfl) (by kernel_rfl) (by kernel_rfl) (fun _ _ _ h => h) (by rfl) hHeld ?hy23_ ?rest23_
              case hy23_ =>
                intro o ho; simp only [List.getElem?_toArray, List.getElem?_cons_succ, List.getElem?_cons_zero, Option.some.injEq] at ho; subst ho; intro w hSw; (try dsimp only at hSw)
                go_simp
                try with_reducible rfl
              case rest23_ =>
              try simp only [Act.put, List.setIfInBounds_toArray, List.set_cons_zero, List.set_cons_succ]
              refine onG 16 (some 35) (v := ?v24_) (by kernel_rfl) (by kernel_rfl) (by kernel_rfl) (fun _ _ _ h => h) (by rfl) hHeld ?hy24_ ?rest24_
              case hy24_ =>
                intro o ho; simp only [List.getElem?_toArray, List.getElem?_cons_succ, List.getElem?_cons_zero, Option.some.injEq] at ho; subst ho; intro w hSw; (try dsimp only at hSw)
                go_simp
                try with_reducible rfl
              case rest24_ =>
              try simp only [Act.put, List.setIfInBounds_toArray, List.set_cons_zero, List.set_cons_succ]
              refine onG 17 (some 36) (v := ?v25_) (by kernel_rfl) (by kernel_rfl) (by kernel_rfl) (fun _ _ _ h => h) (by rfl) hHeld ?hy25_ ?rest25_
              case hy25_ =>
                intro o ho; simp only [List.getElem?_toArray, List.getElem?_cons_succ, List.getElem?_cons_zero, Option.some.injEq] at ho; subst ho; intro w hSw; (try dsimp only at hSw)
                go_simp
                try with_reducible rfl
              case rest25_ =>
              try simp only [Act.put, List.setIfInBounds_toArray, List.set_cons_zero, List.set_cons_succ]
              refine callG 18 (by kernel_rfl) ?_
              intro o ho; simp only [List.getElem?_toArray, List.getElem?_cons_succ, List.getElem?_cons_zero, Option.some.injEq] at ho; subst ho; intro K hK
              go_simp
              go_at_call 30
              (with_reducible refine (HVV.out _ (HP.out.below (Below.refl _ _).drew)).mono ?_)
              rintro e w3 ⟨u, rfl, hr, hb⟩
              (have RV := hidH hr)
              (have BV := hidH (show Below wr.heap.size wr w3 from ((Below.refl wr.heap.size wr).drew).trans hb))
              (have d0 : w3.cell? ⟨b, off + k * 2, none⟩ = some (.int .i64 m) := (BV.out.cell (p := ⟨b, off + k * 2, none⟩) (cell_blk _ _ _ c0)).trans c0)
              (have d1 : w3.cell? ⟨b, off + k * 2 + 1, none⟩ = some (.slice pa0 zs.length pc0) := (BV.out.cell (p := ⟨b, off + k * 2 + 1, none⟩) (cell_blk _ _ _ c1)).trans c1)
              (clear hr hb hHeld)
              go_wp2_with fail
              refine hK.out _ _ ?_ (fun hHeld => ?_)
              · exact ⟨d0, d1⟩
              clear hK K
              try simp only [Act.put, List.setIfInBounds_toArray, List.set_cons_zero, List.set_cons_succ]
              refine callG 19 (by kernel_rfl) ?_
              intro o ho; simp only [List.getElem?_toArray, List.getElem?_cons_succ, List.getElem?_cons_zero, Option.some.injEq] at ho; subst ho; intro K hK
              go_simp
              go_at_call 29
              (with_reducible refine (sTableValid_gives _ (valsS zs 0 1 m) _ _ _ RV.out.lies).mono ?_)
              rintro e w4 ⟨rfl, hb⟩
              (rw [HTO.out])
              (have BT := hidH (bThen BV.out hb))
              (have f0 : w4.cell? ⟨b, off + k * 2, none⟩ = some (.int .i64 m) := (hb.cell (p := ⟨b, off + k * 2, none⟩) (cell_blk _ _ _ d0)).trans d0)
              (have f1 : w4.cell? ⟨b, off + k * 2 + 1, none⟩ = some (.slice pa0 zs.length pc0) := (hb.cell (p := ⟨b, off + k * 2 + 1, none⟩) (cell_blk _ _ _ d1)).trans d1)
              (clear hb hHeld)
              go_wp2_with fail
              refine hK.out _ _ ?_ (fun hHeld => ?_)
              · exact ⟨f0, f1⟩
              clear hK K
              try simp only [Act.put, List.setIfInBounds_toArray, List.set_cons_zero, List.set_cons_succ]
              refine onG 20 (some 39) (v := ?v26_) (by kernel_rfl) (by kernel_rfl) (by kernel_rfl) (fun _ _ _ h => h) (by rfl) hHeld ?hy26_ ?rest26_
              case hy26_ =>
                intro o ho; simp only [List.getElem?_toArray, List.getElem?_cons_succ, List.getElem?_cons_zero, Option.some.injEq] at ho; subst ho; intro w hSw; (try dsimp only at hSw)
                go_simp
                try with_reducible rfl
              case rest26_ =>
              try simp only [Act.put, List.setIfInBounds_toArray, List.set_cons_zero, List.set_cons_succ]
              refine onG 21 (some 40) (v := ?v27_) (by kernel_rfl) (by kernel_rfl) (by kernel_rfl) (fun _ _ _ h => h) (by rfl) hHeld ?hy27_ ?rest27_
              case hy27_ =>
                intro o ho; simp only [List.getElem?_toArray, List.getElem?_cons_succ, List.getElem?_cons_zero, Option.some.injEq] at ho; subst ho; intro w hSw; (try dsimp only at hSw)
                go_simp
                try with_reducible rfl
              case rest27_ =>
              try simp only [Act.put, List.setIfInBounds_toArray, List.set_cons_zero, List.set_cons_succ]
              refine wpAnyH_done (by kernel_rfl) ?_ _
              go_wp2_with fail
              go_ret
              exact ⟨rfl, HB.out.trans (BT.out.mono HB.out.size)⟩
            · have HTO := hidH ht
              have HON := hidH (okTo_next HOK.out HX.out (show segOk ((m : Int), zs) = true by rw [segOk]; show (polyOk zs && (decide ((1 : Int) ≤ (m : Int) ∧ (m : Int) ≤ 60) && tableOk (vals zs 0 m))) = true; rw [← valsS_one, ht, hp, decide_eq_true ⟨d1, d2⟩]; rfl))
              clear hp ht
              go_wp2_with fail
              refine wp_region_held_drew (S := fun w' => w'.cell? ⟨b, off + k * 2, none⟩ = some (.int .i64 m) ∧ w'.cell? ⟨b, off + k * 2 + 1, none⟩ = some (.slice pa0 zs.length pc0)) (by kernel_rfl) ⟨c0, c1⟩ (fun hHeld => ?_)
              try dsimp only
              refine onG 0 (some 19) (v := ?v28_) (by kernel_rfl) (by kernel_rfl) (by kernel_rfl) (fun _ _ _ h => h) (by rfl) hHeld ?hy28_ ?rest28_
              case hy28_ =>
                intro o ho; simp only [List.getElem?_toArray, List.getElem?_cons_zero, Option.some.injEq] at ho; subst ho; intro w hSw; (try dsimp only at hSw)
                go_simp
                try with_reducible rfl
              case rest28_ =>
              try simp only [Act.put, List.setIfInBounds_toArray, List.set_cons_zero, List.set_cons_succ]
              refine onG 1 (some 20) (v := ?v29_) (by kernel_rfl) (by kernel_rfl) (by kernel_rfl) (fun _ _ _ h => h) (by rfl) hHeld ?hy29_ ?rest29_
              case hy29_ =>
                intro o ho; simp only [List.getElem?_toArray, List.getElem?_cons_succ, List.getElem?_cons_zero, Option.some.injEq] at ho; subst ho; intro w hSw; (try dsimp only at hSw)
                go_simp
                try with_reducible rfl
              case rest29_ =>
              try simp only [Act.put, List.setIfInBounds_toArray, List.set_cons_zero, List.set_cons_succ]
              refine onG 2 (some 21) (v := ?v30_) (by kernel_rfl) (by kernel_rfl) (by kernel_rfl) (fun _ _ _ h => h) (by rfl) hHeld ?hy30_ ?rest30_
              case hy30_ =>
                intro o ho; simp only [List.getElem?_toArray, List.getElem?_cons_succ, List.getElem?_cons_zero, Option.some.injEq] at ho; subst ho; intro w hSw; (try dsimp only at hSw)
                go_simp
                try with_reducible rfl
              case rest30_ =>
              try simp only [Act.put, List.setIfInBounds_toArray, List.set_cons_zero, List.set_cons_succ]
              refine onG 3 (some 22) (v := ?v31_) (by kernel_rfl) (by kernel_rfl) (by kernel_rfl) (fun _ _ _ h => h) (by rfl) hHeld ?hy31_ ?rest31_
              case hy31_ =>
                intro o ho; simp only [List.getElem?_toArray, List.getElem?_cons_succ, List.getElem?_cons_zero, Option.some.injEq] at ho; subst ho; intro w hSw; (try dsimp only at hSw)
                go_simp
                try with_reducible rfl
              case rest31_ =>
              try simp only [Act.put, List.setIfInBounds_toArray, List.set_cons_zero, List.set_cons_succ]
              refine onG 4 (some 23) (v := ?v32_) (by kernel_rfl) (by kernel_rfl) (by kernel_rfl) (fun _ _ _ h => h) (by rfl) hHeld ?hy32_ ?rest32_
              case hy32_ =>
                intro o ho; simp only [List.getElem?_toArray, List.getElem?_cons_succ, List.getElem?_cons_zero, Option.some.injEq] at ho; subst ho; intro w hSw; (try dsimp only at hSw)
                go_simp
                try with_reducible rfl
              case rest32_ =>
              try simp only [Act.put, List.setIfInBounds_toArray, List.set_cons_zero, List.set_cons_succ]
              refine callG 5 (by kernel_rfl) ?_
              intro o ho; simp only [List.getElem?_toArray, List.getElem?_cons_succ, List.getElem?_cons_zero, Option.some.injEq] at ho; subst ho; intro K hK
              go_simp
              go_at_call 28
              (with_reducible refine (HPV.out _ (HP.out.below (Below.refl _ _).drew)).mono ?_)
              rintro e wd ⟨rfl, rfl⟩
              (clear hHeld)
              go_wp2_with fail
              refine hK.out _ _ ?_ (fun hHeld => ?_)
              · exact ⟨c0, c1⟩
              clear hK K
              try simp only [Act.put, List.setIfInBounds_toArray, List.set_cons_zero, List.set_cons_succ]
              refine onG 6 (some 25) (v := ?v33_) (by kernel_rfl) (by kernel_rfl) (by kernel_rfl) (fun _ _ _ h => h) (by rfl) hHeld ?hy33_ ?rest33_
              case hy33_ =>
                intro o ho; simp only [List.getElem?_toArray, List.getElem?_cons_succ, List.getElem?_cons_zero, Option.some.injEq] at ho; subst ho; intro w hSw; (try dsimp only at hSw)
                go_simp
                try with_reducible rfl
              case rest33_ =>
              try simp only [Act.put, List.setIfInBounds_toArray, List.set_cons_zero, List.set_cons_succ]
              refine onG 7 (some 26) (v := ?v34_) (by kernel_rfl) (by kernel_rfl) (by kernel_rfl) (fun _ _ _ h => h) (by rfl) hHeld ?hy34_ ?rest34_
              case hy34_ =>
                intro o ho; simp only [List.getElem?_toArray, List.getElem?_cons_succ, List.getElem?_cons_zero, Option.some.injEq] at ho; subst ho; intro w hSw; (try dsimp only at hSw)
                go_simp
                try with_reducible rfl
              case rest34_ =>
              try simp only [Act.put, List.setIfInBounds_toArray, List.set_cons_zero, List.set_cons_succ]
              refine onG 8 (some 27) (v := ?v35_) (by kernel_rfl) (by kernel_rfl) (by kernel_rfl) (fun _ _ _ h => h) (by rfl) hHeld ?hy35_ ?rest35_
              case hy35_ =>
                intro o ho; simp only [List.getElem?_toArray, List.getElem?_cons_succ, List.getElem?_cons_zero, Option.some.injEq] at ho; subst ho; intro w hSw; (try dsimp only at hSw)
                go_simp
                try with_reducible rfl
              case rest35_ =>
              try simp only [Act.put, List.setIfInBounds_toArray, List.set_cons_zero, List.set_cons_succ]
              refine onG 9 (some 28) (v := ?v36_) (by kernel_rfl) (by kernel_rfl) (by kernel_rfl) (fun _ _ _ h => h) (by rfl) hHeld ?hy36_ ?rest36_
              case hy36_ =>
                intro o ho; simp only [List.getElem?_toArray, List.getElem?_cons_succ, List.getElem?_cons_zero, Option.some.injEq] at ho; subst ho; intro w hSw; (try dsimp only at hSw)
                go_simp
                try with_reducible rfl
              case rest36_ =>
              try simp only [Act.put, List.setIfInBounds_toArray, List.set_cons_zero, List.set_cons_succ]
              refine onG 10 (some 29) (v := ?v37_) (by kernel_rfl) (by kernel_rfl) (by kernel_rfl) (fun _ _ _ h => h) (by rfl) hHeld ?hy37_ ?rest37_
              case hy37_ =>
                intro o ho; simp only [List.getElem?_toArray, List.getElem?_cons_succ, List.getElem?_cons_zero, Option.some.injEq] at ho; subst ho; intro w hSw; (try dsimp only at hSw)
                go_simp
                try with_reducible rfl
              case rest37_ =>
              try simp only [Act.put, List.setIfInBounds_toArray, List.set_cons_zero, List.set_cons_succ]
              refine onG 11 (some 30) (v := ?v38_) (by kernel_rfl) (by kernel_rfl) (by kernel_rfl) (fun _ _ _ h => h) (by rfl) hHeld ?hy38_ ?rest38_
              case hy38_ =>
                intro o ho; simp only [List.getElem?_toArray, List.getElem?_cons_succ, List.getElem?_cons_zero, Option.some.injEq] at ho; subst ho; intro w hSw; (try dsimp only at hSw)
                go_simp
                try with_reducible rfl
              case rest38_ =>
              try simp only [Act.put, List.setIfInBounds_toArray, List.set_cons_zero, List.set_cons_succ]
              refine onG 12 (some 31) (v := ?v39_) (by kernel_rfl) (by kernel_rfl) (by kernel_rfl) (fun _ _ _ h => h) (by rfl) hHeld ?hy39_ ?rest39_
              case hy39_ =>
                intro o ho; simp only [List.getElem?_toArray, List.getElem?_cons_succ, List.getElem?_cons_zero, Option.some.injEq] at ho; subst ho; intro w hSw; (try dsimp only at hSw)
                go_simp
                try with_reducible rfl
              case rest39_ =>
              try simp only [Act.put, List.setIfInBounds_toArray, List.set_cons_zero, List.set_cons_succ]
              refine onG 13 (some 32) (v := ?v40_) (by kernel_rfl) (by kernel_rfl) (by kernel_rfl) (fun _ _ _ h => h) (by rfl) hHeld ?hy40_ ?rest40_
              case hy40_ =>
                intro o ho; simp only [List.getElem?_toArray, List.getElem?_cons_succ, List.getElem?_cons_zero, Option.some.injEq] at ho; subst ho; intro w hSw; (try dsimp only at hSw)
                go_simp
                try with_reducible rfl
              case rest40_ =>
              try simp only [Act.put, List.setIfInBounds_toArray, List.set_cons_zero, List.set_cons_succ]
              refine onG 14 (some 33) (v := ?v41_) (by kernel_rfl) (by kernel_rfl) (by kernel_rfl) (fun _ _ _ h => h) (by rfl) hHeld ?hy41_ ?rest41_
              case hy41_ =>
                intro o ho; simp only [List.getElem?_toArray, List.getElem?_cons_succ, List.getElem?_cons_zero, Option.some.injEq] at ho; subst ho; intro w hSw; (try dsimp only at hSw)
                go_simp
                try with_reducible rfl
              case rest41_ =>
              try simp only [Act.put, List.setIfInBounds_toArray, List.set_cons_zero, List.set_cons_succ]
              refine onG 15 (some 34) (v := ?v42_) (by kernel_rfl) (by kernel_rfl) (by kernel_rfl) (fun _ _ _ h => h) (by rfl) hHeld ?hy42_ ?rest42_
              case hy42_ =>
                intro o ho; simp only [List.getElem?_toArray, List.getElem?_cons_succ, List.getElem?_cons_zero, Option.some.injEq] at ho; subst ho; intro w hSw; (try dsimp only at hSw)
                go_simp
                try with_reducible rfl
              case rest42_ =>
              try simp only [Act.put, List.setIfInBounds_toArray, List.set_cons_zero, List.set_cons_succ]
              refine onG 16 (some 35) (v := ?v43_) (by kernel_rfl) (by kernel_rfl) (by kernel_rfl) (fun _ _ _ h => h) (by rfl) hHeld ?hy43_ ?rest43_
              case hy43_ =>
                intro o ho; simp only [List.getElem?_toArray, List.getElem?_cons_succ, List.getElem?_cons_zero, Option.some.injEq] at ho; subst ho; intro w hSw; (try dsimp only at hSw)
                go_simp
                try with_reducible rfl
              case rest43_ =>
              try simp only [Act.put, List.setIfInBounds_toArray, List.set_cons_zero, List.set_cons_succ]
              refine onG 17 (some 36) (v := ?v44_) (by kernel_rfl) (by kernel_rfl) (by kernel_rfl) (fun _ _ _ h => h) (by rfl) hHeld ?hy44_ ?rest44_
              case hy44_ =>
                intro o ho; simp only [List.getElem?_toArray, List.getElem?_cons_succ, List.getElem?_cons_zero, Option.some.injEq] at ho; subst ho; intro w hSw; (try dsimp only at hSw)
                go_simp
                try with_reducible rfl
              case rest44_ =>
              try simp only [Act.put, List.setIfInBounds_toArray, List.set_cons_zero, List.set_cons_succ]
              refine callG 18 (by kernel_rfl) ?_
              intro o ho; simp only [List.getElem?_toArray, List.getElem?_cons_succ, List.getElem?_cons_zero, Option.some.injEq] at ho; subst ho; intro K hK
              go_simp
              go_at_call 30
              (with_reducible refine (HVV.out _ (HP.out.below (Below.refl _ _).drew)).mono ?_)
              rintro e w3 ⟨u, rfl, hr, hb⟩
              (have RV := hidH hr)
              (have BV := hidH (show Below wr.heap.size wr w3 from ((Below.refl wr.heap.size wr).drew).trans hb))
              (have d0 : w3.cell? ⟨b, off + k * 2, none⟩ = some (.int .i64 m) := (BV.out.cell (p := ⟨b, off + k * 2, none⟩) (cell_blk _ _ _ c0)).trans c0)
              (have d1 : w3.cell? ⟨b, off + k * 2 + 1, none⟩ = some (.slice pa0 zs.length pc0) := (BV.out.cell (p := ⟨b, off + k * 2 + 1, none⟩) (cell_blk _ _ _ c1)).trans c1)
              (clear hr hb hHeld)
              go_wp2_with fail
              refine hK.out _ _ ?_ (fun hHeld => ?_)
              · exact ⟨d0, d1⟩
              clear hK K
              try simp only [Act.put, List.setIfInBounds_toArray, List.set_cons_zero, List.set_cons_succ]
              refine callG 19 (by kernel_rfl) ?_
              intro o ho; simp only [List.getElem?_toArray, List.getElem?_cons_succ, List.getElem?_cons_zero, Option.some.injEq] at ho; subst ho; intro K hK
              go_simp
              go_at_call 29
              (with_reducible refine (sTableValid_gives _ (valsS zs 0 1 m) _ _ _ RV.out.lies).mono ?_)
              rintro e w4 ⟨rfl, hb⟩
              (rw [HTO.out])
              (have BT := hidH (bThen BV.out hb))
              (have f0 : w4.cell? ⟨b, off + k * 2, none⟩ = some (.int .i64 m) := (hb.cell (p := ⟨b, off + k * 2, none⟩) (cell_blk _ _ _ d0)).trans d0)
              (have f1 : w4.cell? ⟨b, off + k * 2 + 1, none⟩ = some (.slice pa0 zs.length pc0) := (hb.cell (p := ⟨b, off + k * 2 + 1, none⟩) (cell_blk _ _ _ d1)).trans d1)
              (clear hb hHeld)
              go_wp2_with fail
              refine hK.out _ _ ?_ (fun hHeld => ?_)
              · exact ⟨f0, f1⟩
              clear hK K
              try simp only [Act.put, List.setIfInBounds_toArray, List.set_cons_zero, List.set_cons_succ]
              refine onG 20 (some 39) (v := ?v45_) (by kernel_rfl) (by kernel_rfl) (by kernel_rfl) (fun _ _ _ h => h) (by rfl) hHeld ?hy45_ ?rest45_
              case hy45_ =>
                intro o ho; simp only [List.getElem?_toArray, List.getElem?_cons_succ, List.getElem?_cons_zero, Option.some.injEq] at ho; subst ho; intro w hSw; (try dsimp only at hSw)
                go_simp
                try with_reducible rfl
              case rest45_ =>
              try simp only [Act.put, List.setIfInBounds_toArray, List.set_cons_zero, List.set_cons_succ]
              refine onG 21 (some 40) (v := ?v46_) (by kernel_rfl) (by kernel_rfl) (by kernel_rfl) (fun _ _ _ h => h) (by rfl) hHeld ?hy46_ ?rest46_
              case hy46_ =>
                intro o ho; simp only [List.getElem?_toArray, List.getElem?_cons_succ, List.getElem?_cons_zero, Option.some.injEq] at ho; subst ho; intro w hSw; (try dsimp only at hSw)
                go_simp
                try with_reducible rfl
              case rest46_ =>
              try simp only [Act.put, List.setIfInBounds_toArray, List.set_cons_zero, List.set_cons_succ]
              refine wpAnyH_done (by kernel_rfl) ?_ _
              go_wp2_with fail
              go_roundw
              case rel => exact ⟨k + 1, by omega, by go_num, HON.out, HB.out.trans (BT.out.mono HB.out.size)⟩
              case measure => simp [intOf]; omega
        · obtain rfl : k = cs.length := by omega
          have HE := hidH (planOk_of (cs := cs) (by rw [HLM.out]; exact HI.out) HOK.out)
          go_wp2_with fail
          go_ret
          rw [HE.out]
          exact ⟨rfl, HB.out⟩
    · have HIN := hidH (fun W => sIn_any (lenM cs) 1 60 false (decide_eq_false hin) W)
      rw [planOk_tot hin]
      clear hin
      go_enter Try.func9, Try.ntmps9
      go_wp2_with fail
      refine HLN.out.mono ?_; rintro e w1 ⟨rfl, hb⟩
      have B1 := hidH hb
      clear hb
      go_wp2_with fail
      refine (HIN.out _).mono ?_; rintro e w_ ⟨rfl, rfl⟩
      go_wp2_with fail
      go_ret
      exact ⟨rfl, B1.out⟩
end Go.Proofs.Yteacpfejjphabaa
