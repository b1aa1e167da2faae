/-
  The draw of a printed table and errata, and what a corrected table holds. No conditions but that the bytes that came in can be read.
-/
import Derived.Test.YtlicihjjbojpcaaErrEm
import Derived.Test.YtlicihjjbojpcaaErrEg
namespace Go.Proofs.Ytlicihjjbojpcaa
set_option maxRecDepth 4000
open Go.RowKit
theorem eAt_lt (F : List Int) (n : Nat) (h : okEs F n = true) : ∀ j k, k < j → j < n → eAt F k < eAt F j := by
  intro j
  induction j with
  | zero => intro k hk; omega
  | succ j ih =>
    intro k hk hj
    have h1 := ((okE_iff F (j + 1)).1 (okEs_at F n h (j + 1) hj)).1.1
    rw [eLeast] at h1
    by_cases e : k = j
    · subst e; omega
    · have := ih k (by omega) (by omega); omega
/-- What stands below the errata to come stays. -/
theorem appL_stay (zs F : List Int) (i k : Nat) : ∀ j, k ≤ j → (∀ q, k ≤ q → q < j → (i : Int) < eAt F q) → (appL zs F j)[i]? = (appL zs F k)[i]? := by
  intro j
  induction j with
  | zero => intro hk _; obtain rfl : k = 0 := by omega
            rfl
  | succ j ih =>
    intro hk hq
    by_cases e : k = j + 1
    · subst e; rfl
    · have h1 := hq j (by omega) (by omega)
      rw [appL, List.getElem?_set, if_neg (by omega)]
      exact ih (by omega) (fun q a b => hq q a (by omega))
theorem appOk_at (zs F : List Int) : ∀ n, appOk zs F n = true → ∀ k, k < n → appOne zs F k = true := by
  intro n
  induction n with
  | zero => intro _ k hk; omega
  | succ n ih =>
    intro h k hk
    rw [appOk, Bool.and_eq_true] at h
    by_cases e : k = n
    · subst e; exact h.2
    · exact ih h.1 k (by omega)
/-- What a corrected table holds. -/
theorem app_facts (ys F : List Int) (n : Nat) (h : applyB ys F n = true) : applyA ys F n = appL ys F n ∧ 1 ≤ ys.length ∧ (appL ys F n).length = ys.length ∧
    (∀ k, k < n → ∀ i : Nat, eAt F k = (i : Int) → (appL ys F n)[i]? = some (eRi F k) ∧ ys[i]? = some (eWr F k)) ∧
    (∀ k, k ≤ n → ∀ i : Nat, eLeast F k ≤ (i : Int) → (k < n → (i : Int) < eAt F k) → (appL ys F n)[i]? = ys[i]?) ∧
    (∀ k, k < n → eLeast F k ≤ eAt F k ∧ eAt F k < (ys.length : Int)) ∧ (∀ k, k ≤ n → 0 ≤ eLeast F k) := by
  have h' := h
  unfold applyB at h'
  simp only [Bool.and_eq_true] at h'
  obtain ⟨ht, hk, ha⟩ := h'
  have hone : ∀ k, k < n → eAt F k < (ys.length : Int) ∧ ys.getD (eAt F k).toNat 0 = eWr F k := fun k hkn => by
    have := appOk_at ys F n ha k hkn
    unfold appOne at this
    simpa using this
  have hnn : ∀ k, k ≤ n → 0 ≤ eLeast F k := fun k hkn => (least_nn F k (okEs_pre F n hk k hkn)).1
  have hle : ∀ k, k < n → eLeast F k ≤ eAt F k := fun k hkn => ((okE_iff F k).1 (okEs_at F n hk k hkn)).1.1
  refine ⟨by unfold applyA; rw [h]; rfl, (tableOk_len _ ht).1, appL_len ys F n, fun k hkn i hi => ?_, fun k hkn i hl hi => ?_, fun k hkn => ⟨hle k hkn, (hone k hkn).1⟩, hnn⟩
  · have h1 := hone k hkn
    rw [hi, Int.toNat_natCast] at h1
    have hil : i < ys.length := by omega
    constructor
    · rw [appL_stay ys F i (k + 1) n (by omega) (fun q a b => by have := eAt_lt F n hk q k (by omega) b; omega)]
      rw [appL, hi, Int.toNat_natCast, List.getElem?_set, if_pos rfl, if_pos (by rw [appL_len]; exact hil)]
    · obtain ⟨y, hy⟩ := get_lt ys i hil
      rw [getD_of hy] at h1
      rw [hy, h1.2]
  · rw [appL_stay ys F i k n hkn (fun q a b => by
      by_cases e : q = k
      · subst e; exact hi b
      · have := eAt_lt F n hk q k (by omega) b
        have := hi (by omega)
        omega)]
    exact appL_above ys F k (okEs_pre F n hk k hkn) i hl
/-- A drawn table and errata. -/
def DrawAE (w : World) (e : Ending) (w' : World) : Prop := ∃ (v : Value) (ys : List Int) (u : Value) (n : Nat) (F : List Int), e = .returned (.tuple #[v, u]) ∧ Lies w' 0 w'.heap.size v ys ∧ Lies3 w' 0 w'.heap.size u n F ∧ ys.length ≤ 61 ∧ n ≤ 61 ∧ Below w.heap.size w w'
set_option maxHeartbeats 800000 in
theorem drawApplyErrata (a : Option Addr) (len cap : Nat) (w : World) (hc : Came w a len cap) (hl : len ≤ 1048576) : Calls Try.prog 27 #[.slice a len cap] w (DrawAE w) := by
  have HO := hidH (opened_any a len cap w hc hl)
  clear hc
  go_enter Try.func27, Try.ntmps27
  go_wp2_with fail
  refine HO.out.mono ?_
  rintro e w1 ⟨rfl, hR, hB⟩
  have R1 := hidH hR
  have B1 := hidH hB
  have s1 := hB.size
  have hr1 := hR.lt
  clear hR hB HO
  go_wp2_with fail
  refine (list4_any w.heap.size 0 w1 R1.out (by omega)).mono ?_
  rintro e w2 ⟨g, gc, ys, v, n, F, rfl, hK, hgc, hgm, hg1, h1, h14, hown, hn, hR, hO⟩
  have K2 := hidH hK
  have W2 := hidH hown
  have R2 := hidH hR
  have O2 := hidH hO
  have hgm' := hgm
  unfold maxLen at hgm
  clear hK hown hR hO R1
  go_wp2_with fail
  refine (badL_any w.heap.size _ g ys v n F w2 R2.out (by omega) K2.out (by omega) W2.out hn).mono ?_
  rintro e w3 ⟨v', n', F', rfl, hL, hn', hK', hB'⟩
  have L3 := hidH hL
  have K3 := hidH hK'
  have B3 := hidH (B1.out.trans ((O2.out.below (Nat.le_refl _) s1).trans hB'))
  clear hL hK' hB' K2 W2 R2 O2 B1
  go_wp2_with fail
  go_ret2
  exact ⟨_, ys, _, n', F', rfl, (K3.out.row (Nat.zero_le _) K3.out.1 hgc hgm' rfl).lies, L3.out, by omega, hn', B3.out⟩
end Go.Proofs.Ytlicihjjbojpcaa
