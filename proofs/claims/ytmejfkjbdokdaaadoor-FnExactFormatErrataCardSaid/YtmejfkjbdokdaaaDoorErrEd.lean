/-
  Errata and their validity: the program. Condition: at most 1048576 errata.
-/
import Derived.Test.YtmejfkjbdokdaaaDoorErrEa
namespace Go.Proofs.YtmejfkjbdokdaaaDoor
set_option maxRecDepth 4000
open Go.RowKit
/-- The parts of an erratum in a list of triples. -/
def eAt (F : List Int) (j : Nat) : Int := F.getD (j * 3) 0
def eWr (F : List Int) (j : Nat) : Int := F.getD (j * 3 + 1) 0
def eRi (F : List Int) (j : Nat) : Int := F.getD (j * 3 + 2) 0
/-- The least index that an erratum may have. -/
def eLeast (F : List Int) : Nat → Int
  | 0 => 0
  | j + 1 => eAt F j + 1
def okE (F : List Int) (j : Nat) : Bool := decide (eLeast F j ≤ eAt F j ∧ eAt F j < 60) && (decide (eWr F j ≠ eRi F j) && (inB 1000000000 (eWr F j) && inB 1000000000 (eRi F j)))
/-- The first errata are some. -/
def okEs (F : List Int) : Nat → Bool
  | 0 => true
  | j + 1 => okEs F j && okE F j
theorem okEs_no (F : List Int) (k : Nat) (h : okE F k = false) : ∀ n, k < n → okEs F n = false := by
  intro n
  induction n with
  | zero => intro h; omega
  | succ n ih =>
    intro hk
    rw [okEs]
    by_cases e : k = n
    · subst e; rw [h, Bool.and_false]
    · rw [ih (by omega), Bool.false_and]
theorem okEs_step (F : List Int) (k : Nat) (h : okEs F k = true) (h2 : okE F k = true) : okEs F (k + 1) = true := by rw [okEs, h, h2]; rfl
theorem okE_iff (F : List Int) (j : Nat) : okE F j = true ↔ (eLeast F j ≤ eAt F j ∧ eAt F j < 60) ∧ eWr F j ≠ eRi F j ∧ inB 1000000000 (eWr F j) = true ∧ inB 1000000000 (eRi F j) = true := by
  unfold okE
  simp
theorem okEs_at (F : List Int) : ∀ n, okEs F n = true → ∀ j, j < n → okE F j = true := by
  intro n
  induction n with
  | zero => intro _ j h; omega
  | succ n ih =>
    intro h j hj
    rw [okEs, Bool.and_eq_true] at h
    by_cases e : j = n
    · subst e; exact h.2
    · exact ih h.1 j (by omega)
theorem least_nn (F : List Int) (n : Nat) (h : okEs F n = true) : 0 ≤ eLeast F n ∧ eLeast F n ≤ 60 := by
  induction n with
  | zero => exact ⟨Int.le_refl _, (by decide : (0 : Int) ≤ 60)⟩
  | succ n ih =>
    rw [okEs, Bool.and_eq_true] at h
    have h1 := ih h.1
    have h2 := ((okE_iff F n).1 h.2).1
    show 0 ≤ eAt F n + 1 ∧ eAt F n + 1 ≤ 60
    omega
/-- The cells of an erratum. -/
theorem lies3_cells {w : World} {lo hi n : Nat} {v : Value} {F : List Int} (h : Lies3 w lo hi v n F) (h0 : 0 < n) : ∃ b off cap, v = .slice (some ⟨b, off, none⟩) n cap ∧ n ≤ cap ∧ cap ≤ maxLen ∧ b < w.heap.size ∧ ∀ j, j < n → w.cell? ⟨b, off + j * 3, none⟩ = some (.int .i64 (eAt F j)) ∧ w.cell? ⟨b, off + j * 3 + 1, none⟩ = some (.int .i64 (eWr F j)) ∧ w.cell? ⟨b, off + j * 3 + 2, none⟩ = some (.int .i64 (eRi F j)) := by
  obtain ⟨hF, a, cap, rfl, h1, h2, _, hL⟩ := h
  obtain ⟨b, off, c2, e, _, _, _, _, hbw, hcell⟩ := hL.addr (by omega)
  injection e with e1 e2 e3
  subst e1
  refine ⟨b, off, cap, rfl, h1, h2, hbw, fun j hj => ?_⟩
  obtain ⟨x, hx⟩ := get_lt F (j * 3) (by omega)
  obtain ⟨y, hy⟩ := get_lt F (j * 3 + 1) (by omega)
  obtain ⟨z, hz⟩ := get_lt F (j * 3 + 2) (by omega)
  unfold eAt eWr eRi
  rw [getD_of hx, getD_of hy, getD_of hz]
  exact ⟨hcell _ x hx, by rw [Nat.add_assoc]; exact hcell _ y hy, by rw [Nat.add_assoc]; exact hcell _ z hz⟩
theorem lies3_len {w : World} {lo hi n : Nat} {v : Value} {F : List Int} (h : Lies3 w lo hi v n F) : ∃ a cap, v = .slice a n cap ∧ n ≤ cap ∧ cap ≤ maxLen := by
  obtain ⟨_, a, cap, e, h1, h2, _⟩ := h
  exact ⟨a, cap, e, h1, h2⟩
theorem bMore {a w : World} (h : Below a.heap.size a w) (o : Obj) : Below a.heap.size a (w.alloc o) := h.alloc h.size o
set_option maxHeartbeats 1600000 in
theorem errValid_any (v : Value) (n : Nat) (F : List Int) (w : World) (lo hi : Nat) (hv : Lies3 w lo hi v n F) (hn : n ≤ 1048576) : Calls Tryd.prog 21 #[v] w (Gives (.bool (okEs F n)) w) := by
  by_cases h0 : n = 0
  · subst h0
    obtain ⟨a, cap, rfl, _, hcm⟩ := lies3_len hv
    unfold maxLen at hcm
    clear hv
    go_enter Tryd.func21, Tryd.ntmps21
    go_wp2_with fail
    go_loopw [3, 8] (fun m i wr => i = .int .i64 0 ∧ m = .int .i64 0 ∧ w = wr) (fun _ _ _ => 0)
    case atStart => exact ⟨rfl, rfl, rfl⟩
    case round =>
      obtain ⟨rfl, rfl, rfl⟩ := hrel
      go_wp2_with fail
      go_ret
      exact ⟨rfl, Below.refl _ _⟩
  · obtain ⟨b0, off0, cap0, rfl, hnc, hcm, hbw, hcl⟩ := lies3_cells hv (by omega)
    have HCL := hidH hcl
    unfold maxLen at hcm
    clear hcl hv
    go_enter Tryd.func21, Tryd.ntmps21
    go_wp2_with fail
    go_loopw [3, 8] (fun m i wr => ∃ k : Nat, k ≤ n ∧ i = .int .i64 k ∧ m = .int .i64 (eLeast F k) ∧ okEs F k = true ∧ Below w.heap.size w wr) (fun _ i _ => n - (intOf i).toNat)
    case atStart => exact ⟨0, Nat.zero_le _, rfl, rfl, rfl, Below.refl _ _⟩
    case round =>
      obtain ⟨k, hk, rfl, rfl, hok, hb⟩ := hrel
      have HB := hidH hb
      have HOK := hidH hok
      have ⟨hls1, hls2⟩ := least_nn F k hok
      clear hb hok
      by_cases hlt : k < n
      · have hcA : wr.cell? ⟨b0, off0 + k * 3, none⟩ = some (.int .i64 (eAt F k)) := by rw [HB.out.cell (p := ⟨b0, off0 + k * 3, none⟩) hbw]; exact (HCL.out k hlt).1
        have hcW : wr.cell? ⟨b0, off0 + k * 3 + 1, none⟩ = some (.int .i64 (eWr F k)) := by rw [HB.out.cell (p := ⟨b0, off0 + k * 3 + 1, none⟩) hbw]; exact (HCL.out k hlt).2.1
        have hcR : wr.cell? ⟨b0, off0 + k * 3 + 2, none⟩ = some (.int .i64 (eRi F k)) := by rw [HB.out.cell (p := ⟨b0, off0 + k * 3 + 2, none⟩) hbw]; exact (HCL.out k hlt).2.2
        have HX := hidH (show eLeast F (k + 1) = eAt F k + 1 from rfl)
        have HSTEP := hidH (okEs_step F k HOK.out)
        have HIF := hidH (okE_iff F k)
        have HNO := hidH (fun (h : okE F k = true → False) => okEs_no F k (Bool.eq_false_iff.2 h) n hlt)
        have HBM := hidH (bMore HB.out (.cells #[.int .i64 (eAt F k), .int .i64 (eWr F k), .int .i64 (eRi F k)] 40))
        generalize eLeast F k = ls at *
        generalize eAt F k = x at *
        generalize eWr F k = y at *
        generalize eRi F k = z at *
        by_cases c1 : x < ls
        · have hno := hidH (HNO.out (fun h => by have := (HIF.out.1 h).1; omega))
          go_wp2_with fail
          go_ret
          exact ⟨by rw [hno.out]; rfl, HBM.out⟩
        · by_cases c2 : 60 ≤ x
          · have hno := hidH (HNO.out (fun h => by have := (HIF.out.1 h).1; omega))
            go_wp2_with fail
            go_ret
            exact ⟨by rw [hno.out]; rfl, HBM.out⟩
          · by_cases c3 : y = z
            · have hno := hidH (HNO.out (fun h => (HIF.out.1 h).2.1 c3))
              subst c3
              go_wp2_with fail
              go_ret
              exact ⟨by rw [hno.out]; rfl, HBM.out⟩
            · have cb : (y == z) = false := beq_eq_false_iff_ne.2 c3
              have c1' : ls ≤ x := by omega
              have c2' : x < 60 := by omega
              cases c4 : inB 1000000000 y
              · have hno := hidH (HNO.out (fun h => by have := (HIF.out.1 h).2.2.1; rw [c4] at this; cases this))
                have H4 := hidH c4
                clear c4
                go_wp2_with fail
                refine (within_any y 1000000000 (by omega) (by omega) _).mono ?_; rintro e w_ ⟨rfl, rfl⟩
                rw [H4.out]
                go_wp2_with fail
                go_ret
                exact ⟨by rw [hno.out]; rfl, HBM.out⟩
              · have H4 := hidH c4
                cases c5 : inB 1000000000 z
                · have hno := hidH (HNO.out (fun h => by have := (HIF.out.1 h).2.2.2; rw [c5] at this; cases this))
                  have H5 := hidH c5
                  clear c4 c5
                  go_wp2_with fail
                  refine (within_any y 1000000000 (by omega) (by omega) _).mono ?_; rintro e w_ ⟨rfl, rfl⟩
                  rw [H4.out]
                  go_wp2_with fail
                  refine (within_any z 1000000000 (by omega) (by omega) _).mono ?_; rintro e w_ ⟨rfl, rfl⟩
                  rw [H5.out]
                  go_wp2_with fail
                  go_ret
                  exact ⟨by rw [hno.out]; rfl, HBM.out⟩
                · have H5 := hidH c5
                  have HSN := hidH (HSTEP.out (HIF.out.2 ⟨⟨c1', c2'⟩, c3, c4, c5⟩))
                  clear c4 c5 c3
                  go_wp2_with fail
                  refine (within_any y 1000000000 (by omega) (by omega) _).mono ?_; rintro e w_ ⟨rfl, rfl⟩
                  rw [H4.out]
                  go_wp2_with fail
                  refine (within_any z 1000000000 (by omega) (by omega) _).mono ?_; rintro e w_ ⟨rfl, rfl⟩
                  rw [H5.out]
                  go_wp2_with fail
                  go_roundw
                  case rel => exact ⟨k + 1, by omega, by go_num, by rw [HX.out], HSN.out, HBM.out⟩
                  case measure => simp [intOf]; omega
      · obtain rfl : k = n := by omega
        have HR := hidH HOK.out
        go_wp2_with fail
        go_ret
        exact ⟨by rw [HR.out]; rfl, HB.out⟩
end Go.Proofs.YtmejfkjbdokdaaaDoor
