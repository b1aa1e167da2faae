/-
  The laws' conversion of jobs. Condition: at most 1048576 differences.
-/
import Derived.Test.YtcinhmfjnjecdaaJobE
namespace Go.Proofs.Ytcinhmfjnjecdaa
set_option maxRecDepth 4000
open Go.RowKit
theorem JobAt.setRow {w : World} {b t : Nat} {cs : Array Value} (h : JobAt w b t cs) (ds : Array Value) : JobAt (w.setRow b ds) b t ds := by
  unfold JobAt at *
  simp [World.setRow, Array.getElem?_modify, h]
theorem put_job {a w : World} {B b c lo hi t : Nat} {cs ds : Array Value} {v : Value} {zs : List Int} (hK : JobAt w b t cs ∧ JobAt w c t ds ∧ Row w lo hi v zs ∧ Below B a w) (hb : B ≤ b) (hl : b < lo) (hc : c ≠ b) (i : Nat) (x : Value) (es : Array Value) (he : cs.setIfInBounds i x = es) :
    JobAt (w.setCell ⟨b, i, none⟩ x) b t es ∧ JobAt (w.setCell ⟨b, i, none⟩ x) c t ds ∧ Row (w.setCell ⟨b, i, none⟩ x) lo hi v zs ∧ Below B a (w.setCell ⟨b, i, none⟩ x) :=
  ⟨by rw [← he]; exact hK.1.set i x, hK.2.1.other b i x hc, hK.2.2.1.apart (Apart.of_onto (lo := b) (hi := b + 1) (Onto.setCell b i w x) (Nat.le_refl _) (Nat.lt_succ_self _)) (.inr hl), hK.2.2.2.setCell (p := ⟨b, i, none⟩) hb x⟩
theorem below_job {a w w' : World} {b c lo t : Nat} {cs ds : Array Value} {v : Value} {zs : List Int} (hK : JobAt w b t cs ∧ JobAt w c t ds ∧ Row w lo w.heap.size v zs ∧ Below a.heap.size a w) (hb : Below w.heap.size w w') : JobAt w' b t cs ∧ JobAt w' c t ds ∧ Row w' lo w'.heap.size v zs ∧ Below a.heap.size a w' :=
  ⟨hK.1.below hb, hK.2.1.below hb, (hK.2.2.1.below hb).mono (Nat.le_refl _) hb.size, bThen hK.2.2.2 hb⟩
end Go.Proofs.Ytcinhmfjnjecdaa
