/-
  Errata: triples of numbers in memory, and ErrataOf: the program, at every argument. No conditions but that slices fit in memory.
-/
import Derived.Test.YtmejfkjbdokdaaaDoorErrE
import Derived.Test.YtmejfkjbdokdaaaDoorPolyFa
import Derived.Laws.OwnMore
namespace Go.Proofs.YtmejfkjbdokdaaaDoor
set_option maxRecDepth 4000
open Go.RowKit
/-- The slice v holds n triples of numbers, which lie one after the other. -/
def Lies3 (w : World) (lo hi : Nat) (v : Value) (n : Nat) (F : List Int) : Prop := F.length = 3 * n ∧ ∃ (a : Option Addr) (cap : Nat), v = .slice a n cap ∧ n ≤ cap ∧ cap ≤ maxLen ∧ (a = none → cap = 0) ∧ Lies w lo hi (.slice a F.length F.length) F
/-- .. and can be written. -/
def Row3 (w : World) (lo hi : Nat) (v : Value) (n : Nat) (F : List Int) : Prop := F.length = 3 * n ∧ ∃ (a : Option Addr) (cap : Nat), v = .slice a n cap ∧ n ≤ cap ∧ cap ≤ maxLen ∧ (a = none → cap = 0) ∧ Row w lo hi (.slice a F.length F.length) F
theorem Row3.lies {w : World} {lo hi n : Nat} {v : Value} {F : List Int} (h : Row3 w lo hi v n F) : Lies3 w lo hi v n F := by
  obtain ⟨h0, a, cap, h1, h2, h3, h4, h5⟩ := h
  exact ⟨h0, a, cap, h1, h2, h3, h4, h5.lies⟩
theorem Lies3.below {w w' : World} {lo hi n : Nat} {v : Value} {F : List Int} (h : Lies3 w lo hi v n F) (hb : Below w.heap.size w w') : Lies3 w' lo hi v n F := by
  obtain ⟨h0, a, cap, h1, h2, h3, h4, h5⟩ := h
  exact ⟨h0, a, cap, h1, h2, h3, h4, h5.below hb⟩
theorem Row3.below {w w' : World} {lo hi n : Nat} {v : Value} {F : List Int} (h : Row3 w lo hi v n F) (hb : Below w.heap.size w w') : Row3 w' lo hi v n F := by
  obtain ⟨h0, a, cap, h1, h2, h3, h4, h5⟩ := h
  exact ⟨h0, a, cap, h1, h2, h3, h4, h5.below hb⟩
theorem Row3.apart {w w' : World} {lo hi l h n : Nat} {v : Value} {F : List Int} (H : Row3 w l h v n F) (hA : Apart lo hi w w') (hd : h ≤ lo ∨ hi ≤ l) : Row3 w' l h v n F := by
  obtain ⟨h0, a, cap, h1, h2, h3, h4, h5⟩ := H
  exact ⟨h0, a, cap, h1, h2, h3, h4, h5.apart hA hd⟩
theorem Row3.mono {w : World} {l h l' h' n : Nat} {v : Value} {F : List Int} (H : Row3 w l h v n F) (hl : l' ≤ l) (hh : h ≤ h') : Row3 w l' h' v n F := by
  obtain ⟨h0, a, cap, h1, h2, h3, h4, h5⟩ := H
  exact ⟨h0, a, cap, h1, h2, h3, h4, h5.mono hl hh⟩
theorem Row3.nil (w : World) (lo hi : Nat) (a : Option Addr) (cap : Nat) (hc : cap ≤ maxLen) (ha : a = none → cap = 0) : Row3 w lo hi (.slice a 0 cap) 0 [] :=
  ⟨rfl, a, cap, rfl, Nat.zero_le _, hc, ha, Row.nil _ _ _ _ _ (Nat.zero_le _) (fun _ => rfl)⟩
theorem infoErr : (Tryd.prog.info? 40).map (fun i => (i.zero, i.size, i.bytes)) = some (some (.agg #[.int .i64 0, .int .i64 0, .int .i64 0]), 3, 24) := by kernel_rfl
theorem info3 : ∃ i, Tryd.prog.info? 40 = some i ∧ i.zero = some (.agg #[.int .i64 0, .int .i64 0, .int .i64 0]) ∧ i.size = 3 ∧ i.bytes = 24 := by
  have h := infoErr
  cases e : Tryd.prog.info? 40 with
  | none => rw [e] at h; cases h
  | some i =>
    rw [e] at h
    simp at h
    exact ⟨i, rfl, h.1, h.2.1, h.2.2⟩
theorem row3_of_owns {w : World} {lo n : Nat} {v : Value} {F : List Int} (h : w.ownsRow lo 40 3 v n (ints F)) (hn : n ≤ 1000000) : Row3 w lo w.heap.size v n F := by
  have hF : F.length = 3 * n := by have := h.1; rw [ints_length] at this; omega
  refine ⟨hF, ?_⟩
  by_cases h0 : 0 < n
  · obtain ⟨g, cap, rfl, hg1, hg2⟩ := h.form h0
    have hcap : n ≤ cap ∧ cap ≤ maxLen := by
      rcases h.2 with ⟨e, _⟩ | ⟨g', cap', cur, e, _, _, h1, h2, _⟩
      · cases e
      · injection e with _ _ e3
        subst e3
        exact ⟨h1, h2⟩
    refine ⟨_, cap, rfl, hcap.1, hcap.2, (fun e => by cases e), some ⟨g, 0, none⟩, F.length, rfl, Nat.le_refl _, by unfold maxLen; omega, (fun e => by cases e), fun j z hj => ?_⟩
    have hjl := (List.getElem?_eq_some_iff.1 hj).1
    refine ⟨g, rfl, hg1, hg2, ?_, h.frozenAt j⟩
    rw [h.cellAt j (by omega), ints, List.getElem?_map, hj]; rfl
  · obtain rfl : n = 0 := by omega
    obtain rfl : F = [] := List.eq_nil_of_length_eq_zero (by omega)
    rcases h.2 with ⟨rfl, _⟩ | ⟨g, cap, cur, rfl, _, _, h1, h2, _⟩
    · exact ⟨none, 0, rfl, Nat.le_refl _, by unfold maxLen; omega, (fun _ => rfl), Row.nil _ _ _ _ _ (Nat.zero_le _) (fun _ => rfl)⟩
    · exact ⟨_, cap, rfl, h1, h2, (fun e => by cases e), Row.nil _ _ _ _ _ (Nat.zero_le _) (fun e => by cases e)⟩
/-- The errata of the first entries, one after the other, and how many they are. -/
def errF (zs ys : List Int) : Nat → List Int
  | 0 => []
  | k + 1 => errF zs ys k ++ (if ys.getD k 0 = zs.getD k 0 then [] else [(k : Int), ys.getD k 0, zs.getD k 0])
def errN (zs ys : List Int) : Nat → Nat
  | 0 => 0
  | k + 1 => errN zs ys k + (if ys.getD k 0 = zs.getD k 0 then 0 else 1)
theorem errN_le (zs ys : List Int) : ∀ k, errN zs ys k ≤ k := by
  intro k
  induction k with
  | zero => exact Nat.le_refl _
  | succ k ih => rw [errN]; split <;> omega
theorem errF_same (zs ys : List Int) (k : Nat) (h : ys.getD k 0 = zs.getD k 0) : errF zs ys (k + 1) = errF zs ys k ∧ errN zs ys (k + 1) = errN zs ys k := by
  rw [errF, errN, if_pos h, if_pos h]; exact ⟨List.append_nil _, rfl⟩
theorem errF_more (zs ys : List Int) (k : Nat) (h : ys.getD k 0 ≠ zs.getD k 0) : errF zs ys (k + 1) = errF zs ys k ++ [(k : Int), ys.getD k 0, zs.getD k 0] ∧ errN zs ys (k + 1) = errN zs ys k + 1 := by
  rw [errF, errN, if_neg h, if_neg h]; exact ⟨rfl, rfl⟩
/-- What ErrataOf answers. -/
def errataF (zs ys : List Int) : List Int := if tabsOk zs ys then errF zs ys zs.length else []
def errataN (zs ys : List Int) : Nat := if tabsOk zs ys then errN zs ys zs.length else 0
theorem errataN_le (zs ys : List Int) : errataN zs ys ≤ 60 := by
  unfold errataN
  split
  · rename_i h
    unfold tabsOk at h
    rw [Bool.and_eq_true] at h
    have := tableOk_len zs h.1
    have h2 := errN_le zs ys zs.length
    omega
  · omega
/-- A call that answers new errata and a truth. -/
def NewErrB (n : Nat) (F : List Int) (b : Bool) (w : World) (e : Ending) (w' : World) : Prop := ∃ v, e = .returned (.tuple #[v, .bool b]) ∧ Row3 w' w.heap.size w'.heap.size v n F ∧ Below w.heap.size w w'
end Go.Proofs.YtmejfkjbdokdaaaDoor
