/-
  All carries of a row of wheels made at once, and whether a wheel is marked. Condition: the row and the marks have the same width, of at most twelve wheels.
-/
import Derived.Test.YtffmhcahiabicaaDoorRowB
namespace Go.Proofs.YtffmhcahiabicaaDoor
set_option maxRecDepth 4000
open Go.RowKit
/-- What holds of memory when carries have been made up to wheel k. -/
structure Carried (w : World) (b n : Nat) (A M : List Int) (k : Nat) (wr : World) : Prop where
  row : RowAt wr b n (someT (aheadD 0 A M) A k)
  by_ : RowAt wr w.heap.size n (pad M)
  onto : Onto b w wr
set_option maxHeartbeats 1600000 in
theorem ahead_any (b n : Nat) (A M : List Int) (hn : n ≤ 12) (hA : A.length = n) (hM : M.length = n) (dA : digs A) (dM : flags M) (w : World) (hR : RowAt w b n (pad A)) :
    Calls Tryd.prog 150 #[.pointer (some ⟨b, 0, none⟩), .agg (rowC n (pad M))] w fun e w' => e = .returned (.tuple #[]) ∧ RowAt w' b n (pad (aheadD 0 A M)) ∧ Onto b w w' := by
  have hlt := hR.lt
  have hw1 : ∀ X, (w.alloc X).cell? ⟨b, 0, none⟩ = some (.int .i64 n) := fun X => (hR.alloc X).width
  have LA := hidH hA
  have LM := hidH hM
  have HR := hidH hR
  have DA := hidH dA
  have DM := hidH dM
  clear hR hA hM dA dM
  go_enter Tryd.func150, Tryd.ntmps150
  go_wp2
  clear hw1
  go_loopw [4, 11] (fun mv i wr => ∃ k : Nat, k ≤ n ∧ i = .int .i64 k ∧ mv = .int .i64 (cr 0 A M k) ∧ Carried w b n A M k wr) (fun _ i _ => n - (intOf i).toNat)
  case atStart =>
    refine ⟨0, Nat.zero_le _, rfl, by cases A <;> cases M <;> rfl, (HR.out.alloc _), RowAt.fresh w n (pad M), (Onto.refl _ _).alloc _⟩
  case round =>
    obtain ⟨k, hk, rfl, rfl, hT⟩ := hrel
    have HT := hidH hT
    clear hT
    by_cases hlk : k < n
    · obtain ⟨a, ha⟩ : ∃ a, A[k]? = some a := ⟨_, List.getElem?_eq_getElem (by rw [LA.out]; exact hlk)⟩
      obtain ⟨m, hm⟩ : ∃ m, M[k]? = some m := ⟨_, List.getElem?_eq_getElem (by rw [LM.out]; exact hlk)⟩
      have ⟨a1, a2⟩ := DA.out a (List.mem_of_getElem? ha)
      have ⟨b1, b2⟩ := DM.out m (List.mem_of_getElem? hm)
      have ⟨c1, c2⟩ := cr_bd A M DA.out DM.out (by rw [LA.out, LM.out]) k (by rw [LA.out]; omega)
      have HS := hidH (cr_step 0 A M k a m ha hm)
      have HX := hidH (ahead_at 0 A M k a m ha hm)
      have HA := hidH ha
      have HM := hidH hm
      clear ha hm
      generalize cr 0 A M k = c at *
      have q0 : wr.cell? ⟨b, 1 + k, none⟩ = some (.int .i64 a) := HT.out.row.digit k a (by
        unfold someT
        have e1 : ((aheadD 0 A M).take k).length = k := by rw [List.length_take, aheadD_length _ _ _ (by rw [LA.out, LM.out]), LA.out]; omega
        rw [List.getElem?_append_right (by omega), e1, Nat.sub_self, List.getElem?_drop, Nat.add_zero, pad_at A k (by rw [LA.out]; exact hlk), HA.out])
      have f0 : wr.frozen? ⟨b, 1 + k, none⟩ = false := HT.out.row.free _
      have q1 : ∀ v, (wr.setCell ⟨b, 1 + k, none⟩ v).cell? ⟨w.heap.size, 1 + k, none⟩ = some (.int .i64 m) := fun v => (HT.out.by_.other b (1 + k) v (by omega)).digit k m (by rw [pad_at M k (by rw [LM.out]; exact hlk), HM.out])
      have h12 : k < 12 := by omega
      have h12' : (k : Int) < 12 := by omega
      have hs0 : 0 ≤ a + c := by omega
      go_wp2
      go_roundw
      case rel =>
        refine ⟨k + 1, by omega, by go_num, by rw [HS.out], ?_, HT.out.by_.other _ _ _ (by omega), HT.out.onto.trans (Onto.setCell b _ _ _)⟩
        rw [← someT_set _ A k _ (by rw [LA.out]; exact hn) h12 HX.out]
        exact HT.out.row.set k _
      case measure => simp [intOf]; omega
    · obtain rfl : k = n := by omega
      have TF := hidH (someT_full (aheadD 0 A M) A k (by rw [aheadD_length _ _ _ (by rw [LA.out, LM.out]), LA.out]) LA.out)
      go_wp2
      go_end0
      exact ⟨rfl, by rw [← TF.out]; exact HT.out.row, HT.out.onto⟩
end Go.Proofs.YtffmhcahiabicaaDoor
