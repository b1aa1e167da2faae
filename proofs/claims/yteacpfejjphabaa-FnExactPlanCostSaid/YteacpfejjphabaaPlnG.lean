/-
  PlanDegree and PlanCost: the program and the model, at every argument. No conditions but that slices fit in memory.
-/
import Derived.Test.YteacpfejjphabaaPlnF
import Derived.Test.YteacpfejjphabaaPolyD
namespace Go.Proofs.Yteacpfejjphabaa
set_option maxRecDepth 4000
open Go.RowKit
/-- The greatest degree of the first k segments. -/
def degM (cs : List (Int × List Int)) : Nat → Int
  | 0 => -1
  | k + 1 => max (degM cs k) (degL (cs.getD k (0, [])).2)
def pdegA (cs : List (Int × List Int)) : Int := if planOk cs then degM cs cs.length else -2
theorem degM_next (cs : List (Int × List Int)) (k : Nat) (s : Int × List Int) (h : cs[k]? = some s) : degM cs (k + 1) = max (degM cs k) (degL s.2) := by
  rw [degM, List.getD_eq_getElem?_getD, h]; rfl
def costOk (x : Int) : Bool := decide ((0 : Int) ≤ x ∧ x ≤ 1000)
/-- The cost of the first k segments. -/
def costM (cs : List (Int × List Int)) (s c : Int) : Nat → Int
  | 0 => 0
  | k + 1 => costM cs s c k + (s + c * ((cs.getD k (0, [])).2.length : Int))
def pcostB (cs : List (Int × List Int)) (s c : Int) : Bool := planOk cs && (costOk s && costOk c)
def pcostA (cs : List (Int × List Int)) (s c : Int) : Int := if pcostB cs s c then costM cs s c cs.length else -1
theorem costM_next (cs : List (Int × List Int)) (s c : Int) (k : Nat) (x : Int × List Int) (h : cs[k]? = some x) : costM cs s c (k + 1) = costM cs s c k + (s + c * (x.2.length : Int)) := by
  rw [costM, List.getD_eq_getElem?_getD, h]; rfl
theorem cost_prod (c : Int) (n : Nat) (h : costOk c = true) (hn : n ≤ 7) : 0 ≤ c * (n : Int) ∧ c * (n : Int) ≤ 7000 := by
  have ⟨a, b⟩ := of_decide_eq_true h
  refine ⟨Int.mul_nonneg a (by omega), ?_⟩
  have : c * (n : Int) ≤ 1000 * 7 := Int.mul_le_mul b (by omega) (by omega) (by omega)
  omega
theorem costValid_any (c : Int) (w : World) : Calls Try.prog 38 #[.int .i64 c] w fun e w' => e = .returned (.bool (costOk c)) ∧ w' = w := by
  cases h : costOk c
  · have h := of_decide_eq_false h
    by_cases a : c < 0
    · clear h
      go_enter Try.func38, Try.ntmps38
      go_wp2
      go_ret
      exact ⟨rfl, rfl⟩
    · have b : 1000 < c := by omega
      have d : decide (c ≤ 1000) = false := decide_eq_false (by omega)
      clear h
      go_enter Try.func38, Try.ntmps38
      go_wp2
      go_ret
      exact ⟨rfl, rfl⟩
  · have ⟨a, b⟩ := of_decide_eq_true h
    have d : decide (c ≤ 1000) = true := decide_eq_true b
    clear h
    go_enter Try.func38, Try.ntmps38
    go_wp2
    go_ret
    exact ⟨rfl, rfl⟩
theorem l5Cost_any (s c : Int) (w : World) : Calls Try.prog 37 #[.int .i64 s, .int .i64 c] w fun e w' => e = .returned (.bool (costOk s && costOk c)) ∧ w' = w := by
  have H1 := hidH (fun W => sIn_any s 0 1000 (costOk s) rfl W)
  have H2 := hidH (fun W => sIn_any c 0 1000 (costOk c) rfl W)
  generalize costOk s = b1 at *
  generalize costOk c = b2 at *
  cases b1
  · go_enter Try.func37, Try.ntmps37
    go_wp2_with fail
    refine (H1.out _).mono ?_; rintro e w1 ⟨rfl, rfl⟩
    go_wp2_with fail
    go_ret
    exact ⟨rfl, rfl⟩
  · go_enter Try.func37, Try.ntmps37
    go_wp2_with fail
    refine (H1.out _).mono ?_; rintro e w1 ⟨rfl, rfl⟩
    go_wp2_with fail
    refine (H2.out _).mono ?_; rintro e w1 ⟨rfl, rfl⟩
    go_wp2_with fail
    go_ret
    exact ⟨rfl, rfl⟩
theorem segCost_any (t : Int) (a : Option Addr) (n cap : Nat) (s c : Int) (w : World) (hs : costOk s = true) (hc : costOk c = true) (hn : n ≤ 7) : Calls Try.prog 39 #[.agg #[.int .i64 t, .slice a n cap], .int .i64 s, .int .i64 c] w (Gives (.int .i64 (s + c * (n : Int))) w) := by
  have ⟨p1, p2⟩ := cost_prod c n hc hn
  have ⟨s1, s2⟩ := of_decide_eq_true hs
  obtain ⟨P, hP⟩ : ∃ P, P = c * (n : Int) := ⟨_, rfl⟩
  rw [← hP] at p1 p2 ⊢
  have hw1 : wrap64 (c * (n : Int)) = P := by rw [← hP]; exact IntWalk.wrap64_in _ (by omega)
  have hw2 : IntKind.i64.wrap (c * (n : Int)) = P := by rw [← hP]; exact IntWalk.i64_in _ (by omega)
  have BB := hidH (bMore (Below.refl w.heap.size w) (.cells #[.int .i64 t, .slice a n cap] 43))
  clear hP hs hc
  go_enter Try.func39, Try.ntmps39
  go_wp2_with fail
  go_ret
  exact ⟨rfl, BB.out⟩
set_option maxHeartbeats 1600000 in
theorem planDegree_any (v : Value) (cs : List (Int × List Int)) (w : World) (h1 : Nat) (hv : LiesSg w h1 v cs) (hn : cs.length ≤ 1048576) : Calls Try.prog 22 #[v] w (Gives (.int .i64 (pdegA cs)) w) := by
  have HV := hidH hv
  have HPV := hidH (planValid_any v cs w h1 hv hn)
  unfold pdegA
  obtain ⟨a, cap, rfl, hlc, hcm⟩ := hv.len
  unfold maxLen at hcm
  clear hv
  cases hok : planOk cs
  · rw [hok] at HPV
    clear hok
    go_enter Try.func22, Try.ntmps22
    go_wp2_with fail
    refine HPV.out.mono ?_; rintro e w1 ⟨rfl, hb⟩
    have HB := hidH hb
    clear hb
    go_wp2_with fail
    go_ret
    exact ⟨rfl, HB.out⟩
  · rw [hok] at HPV
    clear hok
    go_enter Try.func22, Try.ntmps22
    go_wp2_with fail
    refine HPV.out.mono ?_; rintro e w1 ⟨rfl, hb⟩
    have HB1 := hidH hb
    clear hb
    go_wp2_with fail
    go_loopw [3, 11] (fun m i wr => ∃ k : Nat, k ≤ cs.length ∧ i = .int .i64 k ∧ m = .int .i64 (degM cs k) ∧ Below w.heap.size w wr) (fun _ i _ => cs.length - (intOf i).toNat)
    case atStart => exact ⟨0, Nat.zero_le _, rfl, rfl, HB1.out⟩
    case round =>
      obtain ⟨k, hk, rfl, rfl, hb⟩ := hrel
      have HB := hidH hb
      clear hb
      by_cases hlt : k < cs.length
      · obtain ⟨b, off, cc1, e, _, _, _, hcl⟩ := HV.out.addr (by omega)
        injection e with e1 e2 e3
        subst e1; subst e3
        obtain ⟨x, hx⟩ : ∃ x, cs[k]? = some x := ⟨cs[k], List.getElem?_eq_getElem hlt⟩
        obtain ⟨c, zs⟩ := x
        obtain ⟨p, q0, q1, q2⟩ := hcl k c zs hx
        have c0 : wr.cell? ⟨b, off + k * 2, none⟩ = some (.int .i64 c) := by rw [HB.out.cell (p := ⟨b, off + k * 2, none⟩) (cell_blk _ _ _ q0)]; exact q0
        have c1 : wr.cell? ⟨b, off + k * 2 + 1, none⟩ = some p := by rw [HB.out.cell (p := ⟨b, off + k * 2 + 1, none⟩) (cell_blk _ _ _ q1)]; exact q1
        have HP := hidH (q2.below HB.out)
        have HX := hidH hx
        obtain ⟨pa0, pc0, rfl⟩ := q2.some
        clear hcl q0 q1 q2 hx
        have HDN := hidH (degM_next cs k (c, zs) HX.out)
        generalize degM cs k = g at *
        have HDG := hidH (fun W (hl : Lies W 0 h1 (.slice pa0 zs.length pc0) zs) => degree_any _ zs W _ _ hl)
        have HD2 := hidH (show degL ((c, zs) : Int × List Int).2 = degL zs from rfl)
        rw [HD2.out] at HDN
        generalize degL zs = d at *
        go_wp2_with fail
        have BX := bMore (Below.refl wr.heap.size wr) (.cells #[.int .i64 c, .slice pa0 zs.length pc0] 43)
        refine (HDG.out _ (HP.out.below BX)).mono ?_; rintro e w5 ⟨rfl, hb⟩
        have B5 := hidH (bThen HB.out (bThen BX hb))
        clear hb BX c0 c1
        by_cases hgd : g ≤ d
        · have hmx : max g d = d := by omega
          rw [hmx] at HDN
          go_wp2_with fail
          go_roundw
          case rel => exact ⟨k + 1, by omega, by go_num, by rw [HDN.out]; all_goals (congr 1; split <;> omega), B5.out⟩
          case measure => simp [intOf]; omega
        · have hmx : max g d = g := by omega
          rw [hmx] at HDN
          have hgd2 : ¬ g ≤ d := hgd
          have hgd3 : d ≤ g := by omega
          go_wp2_with fail
          go_roundw
          case rel => exact ⟨k + 1, by omega, by go_num, by rw [HDN.out]; all_goals (congr 1; split <;> omega), B5.out⟩
          case measure => simp [intOf]; omega
      · obtain rfl : k = cs.length := by omega
        go_wp2_with fail
        go_ret
        exact ⟨rfl, HB.out⟩
set_option maxHeartbeats 1600000 in
theorem sPlanDegree_any (v : Value) (cs : List (Int × List Int)) (w : World) (h1 : Nat) (hv : LiesSg w h1 v cs) (hn : cs.length ≤ 1048576) : Calls Try.prog 21 #[v] w (Gives (.int .i64 (pdegA cs)) w) := by
  have HV := hidH hv
  have HPV := hidH (sPlanValid_any v cs w h1 hv hn)
  unfold pdegA
  obtain ⟨a, cap, rfl, hlc, hcm⟩ := hv.len
  unfold maxLen at hcm
  clear hv
  cases hok : planOk cs
  · rw [hok] at HPV
    clear hok
    go_enter Try.func21, Try.ntmps21
    go_wp2_with fail
    refine HPV.out.mono ?_; rintro e w1 ⟨rfl, hb⟩
    have HB := hidH hb
    clear hb
    go_wp2_with fail
    go_ret
    exact ⟨rfl, HB.out⟩
  · rw [hok] at HPV
    clear hok
    go_enter Try.func21, Try.ntmps21
    go_wp2_with fail
    refine HPV.out.mono ?_; rintro e w1 ⟨rfl, hb⟩
    have HB1 := hidH hb
    clear hb
    go_wp2_with fail
    go_loopw [3, 4] (fun m i wr => ∃ k : Nat, k ≤ cs.length ∧ i = .int .i64 k ∧ m = .int .i64 (degM cs k) ∧ Below w.heap.size w wr) (fun _ i _ => cs.length - (intOf i).toNat)
    case atStart => exact ⟨0, Nat.zero_le _, rfl, rfl, HB1.out⟩
    case round =>
      obtain ⟨k, hk, rfl, rfl, hb⟩ := hrel
      have HB := hidH hb
      clear hb
      by_cases hlt : k < cs.length
      · obtain ⟨b, off, cc1, e, _, _, _, hcl⟩ := HV.out.addr (by omega)
        injection e with e1 e2 e3
        subst e1; subst e3
        obtain ⟨x, hx⟩ : ∃ x, cs[k]? = some x := ⟨cs[k], List.getElem?_eq_getElem hlt⟩
        obtain ⟨c, zs⟩ := x
        obtain ⟨p, q0, q1, q2⟩ := hcl k c zs hx
        have c0 : wr.cell? ⟨b, off + k * 2, none⟩ = some (.int .i64 c) := by rw [HB.out.cell (p := ⟨b, off + k * 2, none⟩) (cell_blk _ _ _ q0)]; exact q0
        have c1 : wr.cell? ⟨b, off + k * 2 + 1, none⟩ = some p := by rw [HB.out.cell (p := ⟨b, off + k * 2 + 1, none⟩) (cell_blk _ _ _ q1)]; exact q1
        have HP := hidH (q2.below HB.out)
        have HX := hidH hx
        obtain ⟨pa0, pc0, rfl⟩ := q2.some
        clear hcl q0 q1 q2 hx
        have HDN := hidH (degM_next cs k (c, zs) HX.out)
        generalize degM cs k = g at *
        have HDG := hidH (fun W (hl : Lies W 0 h1 (.slice pa0 zs.length pc0) zs) => sDegree_any _ zs W _ _ hl)
        have HD2 := hidH (show degL ((c, zs) : Int × List Int).2 = degL zs from rfl)
        rw [HD2.out] at HDN
        generalize degL zs = d at *
        go_wp2_with fail
        have BX := Below.refl wr.heap.size wr
        refine (HDG.out _ (HP.out.below BX)).mono ?_; rintro e w5 ⟨rfl, hb⟩
        have B5 := hidH (bThen HB.out (bThen BX hb))
        clear hb BX c0 c1
        by_cases hgd : g ≤ d
        · have hmx : max g d = d := by omega
          rw [hmx] at HDN
          go_wp2_with fail
          go_roundw
          case rel => exact ⟨k + 1, by omega, by go_num, by rw [HDN.out]; all_goals (congr 1; split <;> omega), B5.out⟩
          case measure => simp [intOf]; omega
        · have hmx : max g d = g := by omega
          rw [hmx] at HDN
          have hgd2 : ¬ g ≤ d := hgd
          have hgd3 : d ≤ g := by omega
          go_wp2_with fail
          go_roundw
          case rel => exact ⟨k + 1, by omega, by go_num, by rw [HDN.out]; all_goals (congr 1; split <;> omega), B5.out⟩
          case measure => simp [intOf]; omega
      · obtain rfl : k = cs.length := by omega
        go_wp2_with fail
        go_ret
        exact ⟨rfl, HB.out⟩
theorem planCost_no (v : Value) (cs : List (Int × List Int)) (w : World) (h1 : Nat) (hv : LiesSg w h1 v cs) (hn : cs.length ≤ 1048576) (s c : Int) (h : pcostB cs s c = false) : Calls Try.prog 24 #[v, .int .i64 s, .int .i64 c] w (Gives (.int .i64 (-1)) w) := by
  have HPV := hidH (planValid_any v cs w h1 hv hn)
  unfold pcostB at h
  obtain ⟨a, cap, rfl, hlc, hcm⟩ := hv.len
  clear hv
  have H1 := hidH (fun W => costValid_any s W)
  have H2 := hidH (fun W => costValid_any c W)
  generalize planOk cs = b0 at *
  generalize costOk s = b1 at *
  generalize costOk c = b2 at *
  cases b0
  · clear h
    go_enter Try.func24, Try.ntmps24
    go_wp2_with fail
    refine HPV.out.mono ?_; rintro e w1 ⟨rfl, hb⟩
    have HB1 := hidH hb
    clear hb
    go_wp2_with fail
    go_ret
    exact ⟨rfl, HB1.out⟩
  · cases b1
    · clear h
      go_enter Try.func24, Try.ntmps24
      go_wp2_with fail
      refine HPV.out.mono ?_; rintro e w1 ⟨rfl, hb⟩
      have HB1 := hidH hb
      clear hb
      go_wp2_with fail
      refine (H1.out _).mono ?_; rintro e w_ ⟨rfl, rfl⟩
      go_wp2_with fail
      go_ret
      exact ⟨rfl, HB1.out⟩
    · obtain rfl : b2 = false := by simpa using h
      clear h
      go_enter Try.func24, Try.ntmps24
      go_wp2_with fail
      refine HPV.out.mono ?_; rintro e w1 ⟨rfl, hb⟩
      have HB1 := hidH hb
      clear hb
      go_wp2_with fail
      refine (H1.out _).mono ?_; rintro e w_ ⟨rfl, rfl⟩
      go_wp2_with fail
      refine (H2.out _).mono ?_; rintro e w_ ⟨rfl, rfl⟩
      go_wp2_with fail
      go_ret
      exact ⟨rfl, HB1.out⟩
set_option maxHeartbeats 1600000 in
theorem planCost_yes (v : Value) (cs : List (Int × List Int)) (w : World) (h1 : Nat) (hv : LiesSg w h1 v cs) (hn : cs.length ≤ 1048576) (s c : Int) (hok : planOk cs = true) (hcs : costOk s = true) (hcc : costOk c = true) : Calls Try.prog 24 #[v, .int .i64 s, .int .i64 c] w (Gives (.int .i64 (costM cs s c cs.length)) w) := by
  have HV := hidH hv
  have HPV := hidH (planValid_any v cs w h1 hv hn)
  rw [hok] at HPV
  have HSOK := hidH (planOk_parts hok).2.2.1
  have hl60 := (planOk_parts hok).2.1
  obtain ⟨a, cap, rfl, hlc, hcm⟩ := hv.len
  unfold maxLen at hcm
  have H1 := hidH (fun W => costValid_any s W)
  have H2 := hidH (fun W => costValid_any c W)
  rw [hcs] at H1
  rw [hcc] at H2
  have HCS := hidH hcs
  have HCC := hidH hcc
  have ⟨s1, s2⟩ := of_decide_eq_true hcs
  clear hv hok hcs hcc
  go_enter Try.func24, Try.ntmps24
  go_wp2_with fail
  refine HPV.out.mono ?_; rintro e w1 ⟨rfl, hb⟩
  have HB1 := hidH hb
  clear hb
  go_wp2_with fail
  refine (H1.out _).mono ?_; rintro e w_ ⟨rfl, rfl⟩
  go_wp2_with fail
  refine (H2.out _).mono ?_; rintro e w_ ⟨rfl, rfl⟩
  go_wp2_with fail
  go_loopw [7, 25] (fun m i wr => ∃ k : Nat, k ≤ cs.length ∧ i = .int .i64 k ∧ m = .int .i64 (costM cs s c k) ∧ 0 ≤ costM cs s c k ∧ costM cs s c k ≤ 8000 * k ∧ Below w.heap.size w wr) (fun _ i _ => cs.length - (intOf i).toNat)
  case atStart => exact ⟨0, Nat.zero_le _, rfl, rfl, Int.le_refl _, by simp [costM], HB1.out⟩
  case round =>
    obtain ⟨k, hk, rfl, rfl, g0, g1, hb⟩ := hrel
    have HB := hidH hb
    clear hb
    by_cases hlt : k < cs.length
    · obtain ⟨b, off, cc1, e, _, _, _, hcl⟩ := HV.out.addr (by omega)
      injection e with e1 e2 e3
      subst e1; subst e3
      obtain ⟨x, hx⟩ : ∃ x, cs[k]? = some x := ⟨cs[k], List.getElem?_eq_getElem hlt⟩
      obtain ⟨t, zs⟩ := x
      obtain ⟨p, q0, q1, q2⟩ := hcl k t zs hx
      have c0 : wr.cell? ⟨b, off + k * 2, none⟩ = some (.int .i64 t) := by rw [HB.out.cell (p := ⟨b, off + k * 2, none⟩) (cell_blk _ _ _ q0)]; exact q0
      have c1 : wr.cell? ⟨b, off + k * 2 + 1, none⟩ = some p := by rw [HB.out.cell (p := ⟨b, off + k * 2 + 1, none⟩) (cell_blk _ _ _ q1)]; exact q1
      have HP := hidH (q2.below HB.out)
      have HX := hidH hx
      obtain ⟨pa0, pc0, rfl⟩ := q2.some
      clear hcl q0 q1 q2 hx
      have HDN := hidH (costM_next cs s c k (t, zs) HX.out)
      have h7 : zs.length ≤ 7 := (polyOk_small zs (segOk_parts (List.all_eq_true.1 HSOK.out (t, zs) (List.mem_of_getElem? HX.out))).1).2.1
      have hl2 : (((t, zs) : Int × List Int).2.length : Int) = (zs.length : Int) := rfl
      rw [hl2] at HDN
      have ⟨p1, p2⟩ := cost_prod c zs.length HCC.out h7
      generalize costM cs s c k = g at *
      have HSC := hidH (fun W => segCost_any t pa0 zs.length pc0 s c W HCS.out HCC.out h7)
      generalize hsc : s + c * (zs.length : Int) = sc at *
      have hsc1 : 0 ≤ sc ∧ sc ≤ 8000 := by omega
      obtain ⟨hsc1, hsc2⟩ := hsc1
      clear hsc hl2
      go_wp2_with fail
      have BX := bMore (Below.refl wr.heap.size wr) (.cells #[.int .i64 t, .slice pa0 zs.length pc0] 43)
      refine (HSC.out _).mono ?_; rintro e w5 ⟨rfl, hb⟩
      have B5 := hidH (bThen HB.out (bThen BX hb))
      clear hb BX c0 c1
      go_wp2_with fail
      go_roundw
      case rel => exact ⟨k + 1, by omega, by go_num, by rw [HDN.out], by rw [HDN.out]; omega, by rw [HDN.out]; omega, B5.out⟩
      case measure => simp [intOf]; omega
    · obtain rfl : k = cs.length := by omega
      go_wp2_with fail
      go_ret
      exact ⟨rfl, HB.out⟩
theorem planCost_any (v : Value) (cs : List (Int × List Int)) (w : World) (h1 : Nat) (hv : LiesSg w h1 v cs) (hn : cs.length ≤ 1048576) (s c : Int) : Calls Try.prog 24 #[v, .int .i64 s, .int .i64 c] w (Gives (.int .i64 (pcostA cs s c)) w) := by
  unfold pcostA
  cases h : pcostB cs s c
  · exact planCost_no v cs w h1 hv hn s c h
  · have h' := h
    simp only [pcostB, Bool.and_eq_true] at h'
    exact planCost_yes v cs w h1 hv hn s c h'.1 h'.2.1 h'.2.2
theorem sPlanCost_no (v : Value) (cs : List (Int × List Int)) (w : World) (h1 : Nat) (hv : LiesSg w h1 v cs) (hn : cs.length ≤ 1048576) (s c : Int) (h : pcostB cs s c = false) : Calls Try.prog 23 #[v, .int .i64 s, .int .i64 c] w (Gives (.int .i64 (-1)) w) := by
  have HPV := hidH (sPlanValid_any v cs w h1 hv hn)
  unfold pcostB at h
  obtain ⟨a, cap, rfl, hlc, hcm⟩ := hv.len
  clear hv
  have H1 := hidH (fun W => l5Cost_any s c W)
  generalize planOk cs = b0 at *
  generalize (costOk s && costOk c) = b1 at *
  cases b0
  · clear h
    go_enter Try.func23, Try.ntmps23
    go_wp2_with fail
    refine HPV.out.mono ?_; rintro e w1 ⟨rfl, hb⟩
    have HB1 := hidH hb
    clear hb
    go_wp2_with fail
    go_ret
    exact ⟨rfl, HB1.out⟩
  · obtain rfl : b1 = false := by simpa using h
    clear h
    go_enter Try.func23, Try.ntmps23
    go_wp2_with fail
    refine HPV.out.mono ?_; rintro e w1 ⟨rfl, hb⟩
    have HB1 := hidH hb
    clear hb
    go_wp2_with fail
    refine (H1.out _).mono ?_; rintro e w_ ⟨rfl, rfl⟩
    go_wp2_with fail
    go_ret
    exact ⟨rfl, HB1.out⟩
set_option maxHeartbeats 1600000 in
theorem sPlanCost_yes (v : Value) (cs : List (Int × List Int)) (w : World) (h1 : Nat) (hv : LiesSg w h1 v cs) (hn : cs.length ≤ 1048576) (s c : Int) (hok : planOk cs = true) (hcs : costOk s = true) (hcc : costOk c = true) : Calls Try.prog 23 #[v, .int .i64 s, .int .i64 c] w (Gives (.int .i64 (costM cs s c cs.length)) w) := by
  have HV := hidH hv
  have HPV := hidH (sPlanValid_any v cs w h1 hv hn)
  rw [hok] at HPV
  have HSOK := hidH (planOk_parts hok).2.2.1
  have hl60 := (planOk_parts hok).2.1
  obtain ⟨a, cap, rfl, hlc, hcm⟩ := hv.len
  unfold maxLen at hcm
  have H1 := hidH (fun W => l5Cost_any s c W)
  rw [hcs, hcc] at H1
  have HCS := hidH hcs
  have HCC := hidH hcc
  have ⟨s1, s2⟩ := of_decide_eq_true hcs
  clear hv hok hcs hcc
  go_enter Try.func23, Try.ntmps23
  go_wp2_with fail
  refine HPV.out.mono ?_; rintro e w1 ⟨rfl, hb⟩
  have HB1 := hidH hb
  clear hb
  go_wp2_with fail
  refine (H1.out _).mono ?_; rintro e w_ ⟨rfl, rfl⟩
  go_wp2_with fail
  go_loopw [7, 8] (fun m i wr => ∃ k : Nat, k ≤ cs.length ∧ i = .int .i64 k ∧ m = .int .i64 (costM cs s c k) ∧ 0 ≤ costM cs s c k ∧ costM cs s c k ≤ 8000 * k ∧ Below w.heap.size w wr) (fun _ i _ => cs.length - (intOf i).toNat)
  case atStart => exact ⟨0, Nat.zero_le _, rfl, rfl, Int.le_refl _, by simp [costM], HB1.out⟩
  case round =>
    obtain ⟨k, hk, rfl, rfl, g0, g1, hb⟩ := hrel
    have HB := hidH hb
    clear hb
    by_cases hlt : k < cs.length
    · obtain ⟨b, off, cc1, e, _, _, _, hcl⟩ := HV.out.addr (by omega)
      injection e with e1 e2 e3
      subst e1; subst e3
      obtain ⟨x, hx⟩ : ∃ x, cs[k]? = some x := ⟨cs[k], List.getElem?_eq_getElem hlt⟩
      obtain ⟨t, zs⟩ := x
      obtain ⟨p, q0, q1, q2⟩ := hcl k t zs hx
      have c0 : wr.cell? ⟨b, off + k * 2, none⟩ = some (.int .i64 t) := by rw [HB.out.cell (p := ⟨b, off + k * 2, none⟩) (cell_blk _ _ _ q0)]; exact q0
      have c1 : wr.cell? ⟨b, off + k * 2 + 1, none⟩ = some p := by rw [HB.out.cell (p := ⟨b, off + k * 2 + 1, none⟩) (cell_blk _ _ _ q1)]; exact q1
      have HP := hidH (q2.below HB.out)
      have HX := hidH hx
      obtain ⟨pa0, pc0, rfl⟩ := q2.some
      clear hcl q0 q1 q2 hx
      have HDN := hidH (costM_next cs s c k (t, zs) HX.out)
      have h7 : zs.length ≤ 7 := (polyOk_small zs (segOk_parts (List.all_eq_true.1 HSOK.out (t, zs) (List.mem_of_getElem? HX.out))).1).2.1
      have hl2 : (((t, zs) : Int × List Int).2.length : Int) = (zs.length : Int) := rfl
      rw [hl2] at HDN
      have ⟨p1, p2⟩ := cost_prod c zs.length HCC.out h7
      generalize costM cs s c k = g at *
      obtain ⟨P, hP⟩ : ∃ P, P = c * (zs.length : Int) := ⟨_, rfl⟩
      rw [← hP] at p1 p2 HDN
      have hw1 : wrap64 (c * (zs.length : Int)) = P := by rw [← hP]; exact IntWalk.wrap64_in _ (by omega)
      have hw2 : IntKind.i64.wrap (c * (zs.length : Int)) = P := by rw [← hP]; exact IntWalk.i64_in _ (by omega)
      clear hP hl2
      go_wp2_with fail
      go_roundw
      case rel => exact ⟨k + 1, by omega, by go_num, by rw [HDN.out]; show Value.int .i64 _ = Value.int .i64 _; congr 1; omega, by rw [HDN.out]; omega, by rw [HDN.out]; omega, HB.out⟩
      case measure => simp [intOf]; omega
    · obtain rfl : k = cs.length := by omega
      go_wp2_with fail
      go_ret
      exact ⟨rfl, HB.out⟩
theorem sPlanCost_any (v : Value) (cs : List (Int × List Int)) (w : World) (h1 : Nat) (hv : LiesSg w h1 v cs) (hn : cs.length ≤ 1048576) (s c : Int) : Calls Try.prog 23 #[v, .int .i64 s, .int .i64 c] w (Gives (.int .i64 (pcostA cs s c)) w) := by
  unfold pcostA
  cases h : pcostB cs s c
  · exact sPlanCost_no v cs w h1 hv hn s c h
  · have h' := h
    simp only [pcostB, Bool.and_eq_true] at h'
    exact sPlanCost_yes v cs w h1 hv hn s c h'.1 h'.2.1 h'.2.2
end Go.Proofs.Yteacpfejjphabaa
