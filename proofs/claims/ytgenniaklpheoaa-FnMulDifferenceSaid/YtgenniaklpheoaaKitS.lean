/-
  The draw of MulPolys' arguments. No conditions but that the bytes that came in can be read.
-/
import Derived.Test.YtgenniaklpheoaaKitR
namespace Go.Proofs.Ytgenniaklpheoaa
open Go.RowKit
/-- Two drawn rows of numbers, which may lie in longer ones. -/
def Draw2L (w : World) (e : Ending) (w' : World) : Prop := ∃ (v u : Value) (zs ys : List Int), e = .returned (.tuple #[v, u]) ∧ Lies w' 0 w'.heap.size v zs ∧ Lies w' 0 w'.heap.size u ys ∧ zs.length ≤ 8 ∧ ys.length ≤ 8 ∧ Below w.heap.size w w'
theorem drawMulPolys (a : Option Addr) (len cap : Nat) (w : World) (hc : Came w a len cap) (hl : len ≤ 1048576) : Calls Try.prog 11 #[.slice a len cap] w (Draw2L w) := by
  have HD := hidH (drawAddPolys a len cap w hc hl)
  have hcap := hc.lenLe
  have hcap2 := hc.capLe
  unfold maxLen at hcap2
  clear hc
  go_enter Try.func11, Try.ntmps11
  go_wp2_with fail
  refine HD.out.mono ?_
  rintro e w1 ⟨v, t, zs, ys, m, rfl, hrow, hrow2, h8, h8y, hm, hB⟩
  have LP := hidH (hrow.lies.mono (Nat.zero_le _) hm)
  have B1 := hidH hB
  have LQ := hidH (hrow2.lies.mono (Nat.zero_le _) (Nat.le_refl _))
  clear hrow hrow2 hm hB HD
  obtain ⟨x, cp, rfl, hlc, hcm, hnil, hcell⟩ := LP.out
  clear hnil
  by_cases h3 : 3 < zs.length
  · obtain ⟨b, off, rfl, hb1, hb2, _⟩ := hcell 0 _ (List.getElem?_eq_getElem (by omega))
    have h3i : (3 : Int) < (zs.length : Int) := by omega
    have HT := hidH (show Lies w1 0 w1.heap.size (.slice (some ⟨b, off, none⟩) 3 cp) (zs.take 3) from lies_take 3 (by omega) hlc hcm hb1 hb2 fun j z hj => by
      obtain ⟨b', off', e, _, _, hcc⟩ := hcell j z hj
      obtain ⟨rfl, rfl⟩ : b' = b ∧ off' = off := by simp at e; exact ⟨e.1.symm, e.2.symm⟩
      exact hcc)
    have HL := hidH (show (zs.take 3).length ≤ 8 by rw [List.length_take]; omega)
    unfold maxLen at hcm
    clear hcell hb1 hb2
    by_cases e3 : 0 < (len : Int) % 3
    · go_wp2_with fail
      go_ret2
      exact ⟨_, t, zs.take 3, ys, rfl, HT.out, LQ.out, HL.out, h8y, B1.out⟩
    · go_wp2_with fail
      go_ret2
      exact ⟨_, t, zs, ys, rfl, LP.out, LQ.out, h8, h8y, B1.out⟩
  · have h3i : ¬ (3 : Int) < (zs.length : Int) := by omega
    unfold maxLen at hcm
    clear hcell
    go_wp2_with fail
    go_ret2
    exact ⟨_, t, zs, ys, rfl, LP.out, LQ.out, h8, h8y, B1.out⟩
end Go.Proofs.Ytgenniaklpheoaa
