/-
  The program's TurnWheels, WarnedWheels and AddColumns at two columns and at no such. Condition: texts of at most 2 to the power of 63, minus 1, bytes.
-/
import Derived.Test.YtmjahklcliocjaaDoorRowH
namespace Go.Proofs.YtmjahklcliocjaaDoor
set_option maxRecDepth 4000
open Go.RowKit
theorem text_row (b n : Nat) (ds : List Int) (hl : ds.length = n) (hn : n ≤ 12) (hd : digs ds) (w : World) (h : RowAt w b n (pad ds)) : Calls Tryd.prog 42 #[.pointer (some ⟨b, 0, none⟩)] w fun e w' => e = .returned (.string ⟨(txt ds).toArray⟩) ∧ Below w.heap.size w w' :=
  text_any b n ds hl hn hd w h.width (fun k d hk => h.digit k d (by rw [pad_at ds k ((List.getElem?_eq_some_iff.1 hk).1), hk])) h.lt
/-- Two new rows. -/
theorem new_one (w : World) : RowAt ((w.alloc (.cells (rowC 0 (pad [])) 57)).alloc (.cells (rowC 0 (pad [])) 57)) w.heap.size 0 (pad []) := (RowAt.fresh w 0 (pad [])).alloc _
theorem new_two (w : World) : RowAt ((w.alloc (.cells (rowC 0 (pad [])) 57)).alloc (.cells (rowC 0 (pad [])) 57)) (w.heap.size + 1) 0 (pad []) := by
  have h := RowAt.fresh (w.alloc (.cells (rowC 0 (pad [])) 57)) 0 (pad [])
  have e : (w.alloc (.cells (rowC 0 (pad [])) 57)).heap.size = w.heap.size + 1 := by simp
  rw [e] at h
  exact h
theorem new_two' (w : World) (cs : Array Value) : RowAt (((w.alloc (.cells (rowC 0 (pad [])) 57)).alloc (.cells (rowC 0 (pad [])) 57)).setRow w.heap.size cs) (w.heap.size + 1) 0 (pad []) := RowAt.setRowOther (new_two w) _ _ (by omega)
/-- The world with two new rows. -/
def two (w : World) (n : Int) (A B : List Int) : World := ((((w.alloc (.cells (rowC 0 (pad [])) 57)).alloc (.cells (rowC 0 (pad [])) 57)).setRow w.heap.size (rowC n A)).setRow (w.heap.size + 1) (rowC n B))
theorem two_a (w : World) (n : Int) (A B : List Int) : RowAt (two w n A B) w.heap.size n A := RowAt.setRowOther (RowAt.setRow (new_one w) n A) _ _ (by omega)
theorem two_b (w : World) (n : Int) (A B : List Int) : RowAt (two w n A B) (w.heap.size + 1) n B := RowAt.setRow (new_two' w _) n B
theorem two_below (w : World) (n : Int) (A B : List Int) : Below w.heap.size w (two w n A B) :=
  Below.setRow2 (Below.setRow2 (((Below.refl _ _).alloc (Nat.le_refl _) _).alloc (by simp) _) _ _ (Nat.le_refl _)) _ _ (by omega)
theorem two_size (w : World) (n : Int) (A B : List Int) : (two w n A B).heap.size = w.heap.size + 2 := by simp [two]
/-- A pair of columns, with what follows. -/
theorem pair_facts (a b : ByteArray) (h : pair a b = true) : digs (dgS a) ∧ digs (dgS b) ∧ (dgS a).length = a.size ∧ (dgS b).length = a.size ∧ 1 ≤ a.size ∧ a.size ≤ 12 ∧ (turnD (dgS a) (dgS b)).length = a.size ∧ (passD (dgS a) (dgS b)).length = a.size := by
  obtain ⟨ha, hb, hab⟩ := (pair_iff a b).1 h
  have ⟨da, la⟩ := dgS_facts a ha
  have ⟨db, lb⟩ := dgS_facts b hb
  have ⟨_, l1, l2⟩ := (ok_iff a).1 ha
  exact ⟨da, db, la, by omega, l1, l2, by rw [turnD_length _ _ (by omega), la], by rw [passD_length _ _ (by omega), la]⟩
variable (a b : ByteArray) (w : World) (hsa : a.size ≤ 9223372036854775807) (hsb : b.size ≤ 9223372036854775807)
include hsa hsb
end Go.Proofs.YtmjahklcliocjaaDoor
