/-
  Functions whose differences of some order are constant are given by their first differences; sums, products and arguments of them. No conditions but bounds of numbers.
-/
import Derived.Test.YtgnoclnenhmakaaPolyMath
namespace Go.Proofs.Ytgnoclnenhmakaa
set_option maxRecDepth 4000
open Go.RowKit
/-- The differences of a function. -/
def Dl (f : Int → Int) : Int → Int := fun n => f (n + 1) - f n
/-- The differences of order L are c everywhere. -/
def Top : Nat → (Int → Int) → Int → Prop
  | 0, f, c => ∀ n, f n = c
  | L + 1, f, c => Top L (Dl f) c
/-- The first differences at 0, L of them. -/
def newt : Nat → (Int → Int) → List Int
  | 0, _ => []
  | L + 1, f => f 0 :: newt L (Dl f)
theorem newt_length (L : Nat) (f : Int → Int) : (newt L f).length = L := by
  induction L generalizing f with
  | zero => rfl
  | succ L ih => rw [newt, List.length_cons, ih]
theorem int_up_down {P : Int → Prop} (h0 : P 0) (hs : ∀ n, P n ↔ P (n + 1)) : ∀ n, P n := by
  have up : ∀ m : Nat, P m := fun m => by
    induction m with
    | zero => exact h0
    | succ m ih => exact (hs m).1 ih
  have down : ∀ m : Nat, P (-(m : Int)) := fun m => by
    induction m with
    | zero => exact h0
    | succ m ih => exact (hs _).2 (by rw [show -((m + 1 : Nat) : Int) + 1 = -(m : Int) by omega]; exact ih)
  intro n
  rcases Int.le_total 0 n with h | h
  · obtain ⟨m, rfl⟩ := Int.eq_ofNat_of_zero_le h; exact up m
  · obtain ⟨m, hm⟩ := Int.eq_ofNat_of_zero_le (show 0 ≤ -n by omega)
    rw [show n = -(m : Int) by omega]; exact down m
/-- Two functions with the same differences and the same value at 0 are equal. -/
theorem same_fun {f g : Int → Int} (h0 : f 0 = g 0) (h : ∀ n, f (n + 1) - f n = g (n + 1) - g n) : ∀ n, f n = g n :=
  int_up_down h0 fun n => by have := h n; omega
theorem evP_cons (x : Int) (p : List Int) (n : Int) : evP (x :: p) (n + 1) - evP (x :: p) n = evP p n := by
  rw [evP_step]; show _ + evP p n - _ = _; omega
/-- Newton's formula. -/
theorem newt_eq (L : Nat) (f : Int → Int) (h : Top L f 0) : ∀ n, evP (newt L f) n = f n := by
  induction L generalizing f with
  | zero => intro n; rw [h n]; rfl
  | succ L ih =>
    refine same_fun (evP_zero _ _) fun n => ?_
    rw [newt, evP_cons, ih (Dl f) h]; rfl
theorem dl_ev (x : Int) (p : List Int) : Dl (evP (x :: p)) = evP p := funext fun n => evP_cons x p n
theorem top_ev (p : List Int) : Top p.length (evP p) 0 := by
  induction p with
  | nil => intro n; rfl
  | cons x p ih => show Top p.length (Dl (evP (x :: p))) 0; rw [dl_ev]; exact ih
theorem newt_ev (p : List Int) : newt p.length (evP p) = p := by
  induction p with
  | nil => rfl
  | cons x p ih => show evP (x :: p) 0 :: newt p.length (Dl (evP (x :: p))) = _; rw [dl_ev, ih, evP_zero]
theorem top_last (p : List Int) (L : Nat) (c : Int) (hl : p.length = L + 1) (hc : p[L]? = some c) : Top L (evP p) c := by
  induction L generalizing p with
  | zero =>
    cases p with
    | nil => simp at hl
    | cons x p =>
      obtain rfl : p = [] := List.eq_nil_of_length_eq_zero (by simpa using hl)
      simp at hc
      subst hc
      intro n
      simp [evP, ev, chN]
  | succ L ih =>
    cases p with
    | nil => simp at hl
    | cons x p =>
      show Top L (Dl (evP (x :: p))) c
      rw [dl_ev]
      exact ih p (by simpa using hl) (by simpa using hc)
/-- Two polynomials of the same length with the same values are the same. -/
theorem ev_inj {p q : List Int} (hl : p.length = q.length) (h : ∀ n, evP p n = evP q n) : p = q := by
  rw [← newt_ev p, ← newt_ev q, hl, show evP p = evP q from funext h]
/-! ### Sums, multiples, shifts -/
theorem top_congr {L : Nat} {f g : Int → Int} {c : Int} (h : Top L f c) (e : ∀ n, g n = f n) : Top L g c := by rw [show g = f from funext e]; exact h
theorem top_succ {L : Nat} {f g : Int → Int} {c : Int} (h : Top L g c) (e : ∀ n, Dl f n = g n) : Top (L + 1) f c := top_congr (f := g) (g := Dl f) h e
theorem top_const {L : Nat} {f : Int → Int} {c : Int} (h : Top L f c) : Top (L + 1) f 0 := by
  induction L generalizing f with
  | zero => intro n; simp only [Dl]; rw [h, h]; omega
  | succ L ih => exact ih (f := Dl f) h
theorem top_mono {L M : Nat} {f : Int → Int} (h : Top L f 0) (hm : L ≤ M) : Top M f 0 := by
  obtain ⟨d, rfl⟩ : ∃ d, M = L + d := ⟨M - L, by omega⟩
  induction d with
  | zero => exact h
  | succ d ih => exact top_const (ih (by omega))
theorem top_exists {L : Nat} {f : Int → Int} (h : Top (L + 1) f 0) : ∃ c, Top L f c := by
  induction L generalizing f with
  | zero => exact ⟨f 0, same_fun (f := f) (g := fun _ => f 0) rfl fun n => by have := h n; simp only [Dl] at this; omega⟩
  | succ L ih => exact ih (f := Dl f) h
theorem top_add {L : Nat} {f g : Int → Int} {c d : Int} (hf : Top L f c) (hg : Top L g d) : Top L (fun n => f n + g n) (c + d) := by
  induction L generalizing f g with
  | zero => intro n; show f n + g n = _; rw [hf n, hg n]
  | succ L ih => exact top_succ (ih (f := Dl f) (g := Dl g) hf hg) fun n => by simp only [Dl]; omega
theorem top_neg {L : Nat} {f : Int → Int} {c : Int} (hf : Top L f c) : Top L (fun n => -f n) (-c) := by
  induction L generalizing f with
  | zero => intro n; show -f n = _; rw [hf n]
  | succ L ih => exact top_succ (ih (f := Dl f) hf) fun n => by simp only [Dl]; omega
theorem top_zero (L : Nat) : Top L (fun _ => 0) 0 := by
  induction L with
  | zero => intro n; rfl
  | succ L ih => exact top_succ ih fun n => rfl
theorem top_shift {L : Nat} {f : Int → Int} {c : Int} (hf : Top L f c) (s : Int) : Top L (fun n => f (n + s)) c := by
  induction L generalizing f with
  | zero => intro n; exact hf _
  | succ L ih => exact top_succ (ih (f := Dl f) hf) fun n => by simp only [Dl]; rw [show n + 1 + s = n + s + 1 by omega]
/-- Every m-th value. -/
theorem top_every {L : Nat} {f : Int → Int} (hf : Top L f 0) (m : Nat) (s : Int) : Top L (fun n => f (m * n + s)) 0 := by
  induction L generalizing f s with
  | zero => intro n; exact hf _
  | succ L ih =>
    have part : ∀ j : Nat, Top L (fun n => f (m * n + s + j) - f (m * n + s)) 0 := fun j => by
      induction j with
      | zero => exact top_congr (top_zero L) fun n => by simp
      | succ j ihj =>
        refine top_congr (top_add ihj (ih (f := Dl f) hf (s + j))) fun n => ?_
        simp only [Dl]
        rw [show (m : Int) * n + s + ((j + 1 : Nat) : Int) = m * n + (s + j) + 1 by omega, show (m : Int) * n + s + (j : Int) = m * n + (s + j) by omega]
        omega
    refine top_succ (part m) fun n => ?_
    simp only [Dl]
    rw [Int.mul_add, Int.mul_one, show (m : Int) * n + m + s = m * n + s + m by omega]
/-- The values backwards. -/
theorem top_back {L : Nat} {f : Int → Int} (hf : Top L f 0) (s : Int) : Top L (fun n => f (-n + s)) 0 := by
  induction L generalizing f s with
  | zero => intro n; exact hf _
  | succ L ih =>
    refine top_succ (top_neg (ih (f := Dl f) hf (s - 1))) fun n => ?_
    simp only [Dl]
    rw [show -n + (s - 1) + 1 = -n + s by omega, show -(n + 1) + s = -n + (s - 1) by omega]
    omega
/-! ### Products -/
/-- The factor of the highest differences of a product. -/
theorem top_mul (s : Nat) : ∀ L M : Nat, L + M = s → ∃ K : Int, 0 < K ∧ ∀ (f g : Int → Int) (c d : Int), Top L f c → Top M g d → Top (L + M) (fun n => f n * g n) (K * (c * d)) := by
  induction s with
  | zero =>
    intro L M h
    obtain rfl : L = 0 := by omega
    obtain rfl : M = 0 := by omega
    exact ⟨1, by decide, fun f g c d hf hg n => by show f n * g n = _; rw [hf n, hg n, Int.one_mul]⟩
  | succ s ih =>
    intro L M h
    have e : ∀ (f g : Int → Int) n, Dl (fun n => f n * g n) n = f (n + 1) * Dl g n + Dl f n * g n := fun f g n => by
      simp only [Dl]; rw [Int.mul_sub, Int.sub_mul]; omega
    rcases Nat.eq_zero_or_pos L with hL | hL
    · subst hL
      obtain ⟨M, rfl⟩ : ∃ k, M = k + 1 := ⟨M - 1, by omega⟩
      obtain ⟨K, hK, hk⟩ := ih 0 M (by omega)
      refine ⟨K, hK, fun f g c d hf hg => ?_⟩
      have hfz : ∀ n, Dl f n = 0 := fun n => by simp only [Dl]; rw [hf, hf]; omega
      rw [Nat.zero_add] at hk ⊢
      refine top_succ (hk (fun n => f (n + 1)) (Dl g) c d (fun n => hf _) hg) fun n => ?_
      rw [e, hfz, Int.zero_mul, Int.add_zero]
    · obtain ⟨L, rfl⟩ : ∃ k, L = k + 1 := ⟨L - 1, by omega⟩
      rcases Nat.eq_zero_or_pos M with hM | hM
      · subst hM
        obtain ⟨K, hK, hk⟩ := ih L 0 (by omega)
        refine ⟨K, hK, fun f g c d hf hg => ?_⟩
        have hgz : ∀ n, Dl g n = 0 := fun n => by simp only [Dl]; rw [hg, hg]; omega
        refine top_succ (hk (Dl f) g c d hf hg) fun n => ?_
        rw [e, hgz, Int.mul_zero, Int.zero_add]
      · obtain ⟨M, rfl⟩ : ∃ k, M = k + 1 := ⟨M - 1, by omega⟩
        obtain ⟨K1, h1, k1⟩ := ih (L + 1) M (by omega)
        obtain ⟨K2, h2, k2⟩ := ih L (M + 1) (by omega)
        refine ⟨K1 + K2, by omega, fun f g c d hf hg => ?_⟩
        have a := k1 (fun n => f (n + 1)) (Dl g) c d (top_shift hf 1) hg
        have b := k2 (Dl f) g c d hf hg
        rw [show L + 1 + M = L + (M + 1) by omega] at a
        have := top_add a b
        rw [← Int.add_mul] at this
        rw [show L + 1 + (M + 1) = L + (M + 1) + 1 by omega]
        exact top_succ this fun n => e f g n
theorem top_mul_zero {L M : Nat} {f g : Int → Int} (hf : Top (L + 1) f 0) (hg : Top (M + 1) g 0) : Top (L + M + 1) (fun n => f n * g n) 0 := by
  obtain ⟨c, hc⟩ := top_exists hf
  obtain ⟨d, hd⟩ := top_exists hg
  obtain ⟨K, _, h⟩ := top_mul (L + M) L M rfl
  exact top_const (h f g c d hc hd)
/-! ### Powers -/
/-- The sum of the powers of n with given coefficients. -/
def pw (n : Int) : List Int → Int
  | [] => 0
  | x :: c => pw n c * n + x
theorem top_pw (c : List Int) : Top c.length (fun n => pw n c) 0 := by
  induction c with
  | nil => exact top_zero 0
  | cons x c ih =>
    have hid : Top (1 + 1) (fun n : Int => n) 0 := fun n => by simp only [Dl]; omega
    have hcx : Top (c.length + 1) (fun _ => x) 0 := top_mono (L := 1) (fun n => by simp only [Dl]; omega) (by omega)
    show Top (c.length + 1) (fun n => pw n c * n + x) 0
    cases c with
    | nil => exact top_congr hcx fun n => by simp [pw]
    | cons y c => exact top_add (top_mul_zero (L := c.length) (M := 1) ih hid) hcx
/-! ### Differences of a list of values -/
/-- The values at n, n + 1 and so on, m of them. -/
def valsF (f : Int → Int) (n : Int) (m : Nat) : List Int := (List.range m).map fun (i : Nat) => f (n + i)
theorem valsF_length (f : Int → Int) (n : Int) (m : Nat) : (valsF f n m).length = m := by simp [valsF]
theorem valsF_get (f : Int → Int) (n : Int) (m i : Nat) (h : i < m) : (valsF f n m)[i]? = some (f (n + i)) := by simp [valsF, h]
theorem valsF_snoc (f : Int → Int) (n : Int) (m : Nat) : valsF f n (m + 1) = valsF f n m ++ [f (n + m)] := by simp [valsF, List.range_succ]
theorem valsF_dif (f : Int → Int) (n : Int) (m : Nat) : dif (valsF f n (m + 1)) = valsF (Dl f) n m := by
  refine list_ext (by rw [dif_length, valsF_length, valsF_length]; omega) fun i x y hx hy => ?_
  have hi : i < m := by
    have := (List.getElem?_eq_some_iff.1 hy).1
    rwa [valsF_length] at this
  rw [valsF_get _ _ _ _ hi] at hy
  rw [dif_get _ i _ _ (valsF_get f n (m + 1) i (by omega)) (valsF_get f n (m + 1) (i + 1) (by omega))] at hx
  injection hx with hx
  injection hy with hy
  rw [← hx, ← hy, Dl, show n + ((i + 1 : Nat) : Int) = n + i + 1 by omega]
theorem dif_bd (l : List Int) (M : Nat) (h : ∀ x ∈ l, x.natAbs ≤ M) : ∀ x ∈ dif l, x.natAbs ≤ 2 * M := by
  induction l with
  | nil => intro x hx; simp [dif] at hx
  | cons a l ih =>
    cases l with
    | nil => intro x hx; simp [dif] at hx
    | cons b l =>
      intro x hx
      rw [dif, List.mem_cons] at hx
      rcases hx with rfl | hx
      · have h1 := h a (by simp)
        have h2 := h b (by simp)
        omega
      · exact ih (fun y hy => h y (List.mem_cons_of_mem _ hy)) x hx
theorem difW_id (l : List Int) (h : ∀ x ∈ dif l, x.natAbs ≤ 9223372036854775807) : difW l = dif l :=
  (List.map_congr_left fun x hx => wrap64_id x (by have := h x hx; omega) (by have := h x hx; omega)).trans (List.map_id _)
theorem lead_newt (m : Nat) (f : Int → Int) (M : Nat) (h : ∀ i : Nat, i < m → (f i).natAbs ≤ M) (hM : M * 2 ^ m ≤ 9223372036854775807) : leadW m (valsF f 0 m) = newt m f := by
  induction m generalizing f M with
  | zero => rfl
  | succ m ih =>
    have hb : ∀ x ∈ valsF f 0 (m + 1), x.natAbs ≤ M := fun x hx => by
      obtain ⟨i, hi, rfl⟩ := List.mem_map.1 hx
      have := h i (List.mem_range.1 hi)
      rwa [Int.zero_add]
    have hd := dif_bd _ M hb
    have hM2 : M * 2 * 2 ^ m ≤ 9223372036854775807 := by rw [Nat.pow_succ] at hM; rw [Nat.mul_assoc, Nat.mul_comm 2]; exact hM
    have hp : 1 ≤ 2 ^ m := Nat.one_le_two_pow
    have hle : M * 2 ≤ M * 2 * 2 ^ m := Nat.le_mul_of_pos_right _ hp
    rw [leadW, difW_id _ (fun x hx => by have := hd x hx; omega), valsF_dif]
    have hh : (valsF f 0 (m + 1)).headD 0 = f 0 := by
      rw [List.headD_eq_head?_getD, List.head?_eq_getElem?, valsF_get f 0 (m + 1) 0 (by omega)]; rfl
    rw [hh, newt, ih (Dl f) (M * 2) (fun i hi => ?_) hM2]
    have h1 := h i (by omega)
    have h2 := h (i + 1) (by omega)
    simp only [Dl]
    rw [show ((i : Int) + 1) = ((i + 1 : Nat) : Int) by omega]
    omega
/-! ### Closer bounds of values -/
/-- Bounds of coefficients at arguments between -N and N. -/
def chC (N : Nat) : Nat → Nat
  | 0 => 1
  | k + 1 => chC N k * (N + 6) / (k + 1)
theorem chN_absC (N : Nat) (n : Int) (hn : n.natAbs ≤ N) (k : Nat) (hk : k ≤ 6) : (chN n k).natAbs ≤ chC N k := by
  induction k with
  | zero => exact Nat.le_refl _
  | succ k ih =>
    have h1 := ih (by omega)
    have h2 : (n - k).natAbs ≤ N + 6 := by omega
    rw [chN, chC, Int.natAbs_tdiv, Int.natAbs_mul]
    exact Nat.div_le_div (Nat.mul_le_mul h1 h2) (by omega) (by omega)
theorem ev_absC (N C : Nat) (hC : ∀ k, k ≤ 6 → chC N k ≤ C) (n : Int) (hn : n.natAbs ≤ N) (p : List Int) (M : Nat) (hp : ∀ x ∈ p, x.natAbs ≤ M) (k : Nat) (hk : k + p.length ≤ 7) : (ev n p k).natAbs ≤ p.length * (M * C) := by
  induction p generalizing k with
  | nil => simp [ev]
  | cons x p ih =>
    have hx := hp x List.mem_cons_self
    rw [List.length_cons] at hk ⊢
    have hr := ih (fun y hy => hp y (List.mem_cons_of_mem _ hy)) (k + 1) (by omega)
    have hc := chN_absC N n hn k (by omega)
    have hm := abs_mul_le (a := x) (b := chN n k) (A := M) (B := C) hx (Nat.le_trans hc (hC k (by omega)))
    rw [ev, Nat.add_mul]
    omega
theorem chC_60 : ∀ k, k ≤ 6 → chC 60 k ≤ 120000000 := fun k hk => by
  have : k = 0 ∨ k = 1 ∨ k = 2 ∨ k = 3 ∨ k = 4 ∨ k = 5 ∨ k = 6 := by omega
  rcases this with rfl | rfl | rfl | rfl | rfl | rfl | rfl <;> decide
theorem chC_6 : ∀ k, k ≤ 6 → chC 6 k ≤ 5000 := fun k hk => by
  have : k = 0 ∨ k = 1 ∨ k = 2 ∨ k = 3 ∨ k = 4 ∨ k = 5 ∨ k = 6 := by omega
  rcases this with rfl | rfl | rfl | rfl | rfl | rfl | rfl <;> decide
theorem Small.abs60 {p : List Int} (h : Small p) (n : Int) (hn : n.natAbs ≤ 60) : (evP p n).natAbs ≤ 84000000000000 := by
  have hb := ev_absC 60 120000000 chC_60 n hn p 100000 (fun x hx => by have := h.2 x hx; omega) 0 (by have := h.1; omega)
  have h1 := h.1
  have : p.length * (100000 * 120000000) ≤ 7 * (100000 * 120000000) := Nat.mul_le_mul_right _ h1
  unfold evP
  omega
theorem Small.abs6 {p : List Int} (h : Small p) (n : Int) (hn : n.natAbs ≤ 6) : (evP p n).natAbs ≤ 3500000000 := by
  have hb := ev_absC 6 5000 chC_6 n hn p 100000 (fun x hx => by have := h.2 x hx; omega) 0 (by have := h.1; omega)
  have h1 := h.1
  have : p.length * (100000 * 5000) ≤ 7 * (100000 * 5000) := Nat.mul_le_mul_right _ h1
  unfold evP
  omega
end Go.Proofs.Ytgnoclnenhmakaa
