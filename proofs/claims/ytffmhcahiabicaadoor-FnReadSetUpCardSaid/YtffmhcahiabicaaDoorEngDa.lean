/-
  Drawn columns: each of the drawn bytes is a digit. Condition: the reader has been asked at most 800,000 times.
-/
import Derived.Test.YtffmhcahiabicaaDoorKitC
import Derived.Test.YtffmhcahiabicaaDoorSpecA
import Derived.Test.YtffmhcahiabicaaDoorValues
namespace Go.Proofs.YtffmhcahiabicaaDoor
set_option maxRecDepth 4000
set_option linter.unusedVariables false
open Go.RowKit
/-- Block b holds n bytes that can be written, and the first k are digits. -/
def RowD (w : World) (b n k : Nat) : Prop := RowB w b n ∧ ∀ j, j < k → ∃ x : Int, 48 ≤ x ∧ x ≤ 57 ∧ w.cell? ⟨b, j, none⟩ = some (.int .u8 x)
theorem RowD.onto {w w' : World} {b n k r : Nat} (h : RowD w b n k) (ho : Onto r w w') (hr : b ≠ r) : RowD w' b n k :=
  ⟨h.1.onto ho hr, fun j hj => by
    obtain ⟨x, x0, x1, hc⟩ := h.2 j hj
    exact ⟨x, x0, x1, by rw [ho.cell (p := ⟨b, j, none⟩) h.1.1 hr]; exact hc⟩⟩
theorem RowD.set {w : World} {b n k : Nat} (h : RowD w b n k) (x : Int) (hk : k < n) (h0 : 48 ≤ x) (h1 : x ≤ 57) : RowD (w.setCell ⟨b, k, none⟩ (.int .u8 x)) b n k := by
  refine ⟨h.1.set k x (by omega) (by omega), fun j hj => ?_⟩
  obtain ⟨y, y0, y1, hc⟩ := h.2 j hj
  exact ⟨y, y0, y1, by rw [World.cell?_setCell_other _ _ _ _ (by intro h; injection h; omega)]; exact hc⟩
theorem RowD.next {w : World} {b n k : Nat} (h : RowD w b n k) (x : Int) (hk : k < n) (h0 : 48 ≤ x) (h1 : x ≤ 57) : RowD (w.setCell ⟨b, k, none⟩ (.int .u8 x)) b n (k + 1) := by
  refine ⟨h.1.set k x (by omega) (by omega), fun j hj => ?_⟩
  by_cases e : j = k
  · subst e
    obtain ⟨⟨y, _, _, hc⟩, _⟩ := h.1.2 j hk
    exact ⟨x, h0, h1, World.cell?_setCell_same _ _ _ hc⟩
  · obtain ⟨y, y0, y1, hc⟩ := h.2 j (by omega)
    exact ⟨y, y0, y1, by rw [World.cell?_setCell_other _ _ _ _ (by intro h; injection h; omega)]; exact hc⟩
/-- 'string(b)' of a block of digits. -/
theorem conv_rowD (w : World) (b n : Nat) (h1 : 1 ≤ n) (h12 : n ≤ 12) (h : RowD w b n n) : ∃ s : ByteArray, ok s = true ∧ s.size = n ∧ (convert 36 9 (.slice (some ⟨b, 0, none⟩) n n)).run Tryd.prog w = .ok (.string s) w := by
  have h' : ∀ j : Nat, ∃ c : UInt8, (48 ≤ (c.toNat : Int) ∧ (c.toNat : Int) ≤ 57) ∧ (j < n → w.cell? ⟨b, j, none⟩ = some (.int .u8 (c.toNat : Int))) := by
    intro j
    by_cases hj : j < n
    · have ⟨x, x0, x1, hc⟩ := h.2 j hj
      have e : ((UInt8.ofNat x.toNat).toNat : Int) = x := by
        rw [UInt8.toNat_ofNat', Nat.mod_eq_of_lt (by omega)]; omega
      exact ⟨UInt8.ofNat x.toNat, by rw [e]; exact ⟨x0, x1⟩, fun _ => by rw [e]; exact hc⟩
    · exact ⟨48, by decide, fun h => absurd h hj⟩
  obtain ⟨f, hf⟩ := Classical.axiomOfChoice h'
  have hl : ((List.range n).map f).length = n := by simp
  refine ⟨⟨((List.range n).map f).toArray⟩, ?_, by show ((List.range n).map f).toArray.size = n; simp, ?_⟩
  · refine (ok_iff _).2 ⟨fun c hc => ?_, ?_, ?_⟩
    · have hc' : c ∈ (List.range n).map f := hc
      obtain ⟨j, _, rfl⟩ := List.mem_map.1 hc'
      exact (hf j).1
    · show 1 ≤ ((List.range n).map f).toArray.size
      simpa using h1
    · show ((List.range n).map f).toArray.size ≤ 12
      simpa using h12
  have hq := run_convert_bytes_back (P := Tryd.prog) w 36 9 5 ⟨b, 0, none⟩ n ((List.range n).map f) Tryd.underlying36 Tryd.underlying5 Tryd.underlying9 (fun j hj => by
    have hj' : j < n := by rw [hl] at hj; exact hj
    have e9 : (⟨b, 0, none⟩ : Addr).add j = ⟨b, j, none⟩ := by simp [Addr.add]; omega
    rw [e9, (hf j).2 hj']
    simp)
  rw [hl] at hq
  exact hq
/-- A drawn column of width n. -/
def Col1 (n d : Nat) (r B : Nat) (w : World) (e : Ending) (w' : World) : Prop := ∃ s : ByteArray, ok s = true ∧ s.size = n ∧ e = .returned (.string s) ∧ Rd w' r (B + d) ∧ Onto r w w'
theorem dig_bd (c : UInt8) (h : 48 ≤ c.toNat) (h1 : c.toNat ≤ 57) : 48 ≤ (c.toNat : Int) ∧ (c.toNat : Int) ≤ 57 := by omega
theorem first_dig {w : World} {b n k : Nat} {c : UInt8} (h : RowD w b n k) (hk : k < n) (hc : c = 48 ∨ c = 57) : RowD (w.setCell ⟨b, k, none⟩ (.int .u8 (c.toNat : Int))) b n (k + 1) :=
  h.next _ hk (by rcases hc with rfl | rfl <;> decide) (by rcases hc with rfl | rfl <;> decide)
set_option maxHeartbeats 1600000 in
theorem someD_any (n r B : Nat) (w : World) (h : Rd w r B) (hB : B ≤ 800000) (h1 : 1 ≤ n) (h2 : n ≤ 12) : Calls Tryd.prog 96 #[.pointer (some ⟨r, 0, none⟩), .int .i64 n] w (Col1 n 25 r B w) := by
  have HL := hidH h.lt
  have hmk := run_make_row' (P := Tryd.prog) 36 5 (.int .u8 0) 1 Tryd.underlying36 info5 rfl .i64 .i64 n (by omega) (by omega) w
  have HR0 := hidH (h.onto ((Below.refl w.heap.size w).alloc (Nat.le_refl _) (.cells (byteC n []) 5)))
  have HF := hidH (show RowD _ w.heap.size n 0 from ⟨RowB.fresh w n, fun j hj => absurd hj (Nat.not_lt_zero _)⟩)
  have HO0 := hidH ((Onto.refl r w).alloc (.cells (byteC n []) 5))
  rw [byteC_made] at hmk
  generalize (w.alloc (.cells (byteC n []) 5)) = w0 at *
  clear h
  go_enter Tryd.func96, Tryd.ntmps96
  go_wp2_with fail
  clear hmk
  refine (pick_any 4 r B w0 HR0.out (by omega)).mono ?_
  rintro e w1 ⟨m, rfl, m0, m1, hR, hO⟩
  have HR := hidH hR
  have HO := hidH (HO0.out.trans hO)
  have HB := hidH (HF.out.onto hO (by have := HL.out; omega))
  have m2 := m1 (by omega)
  clear m1 hR hO HR0 HF HO0
  go_wp2
  have hlt0 := HL.out
  go_loopw [7] (fun i wr => ∃ k : Nat, k ≤ n ∧ i = .int .i64 k ∧ Rd wr r (B + 1 + 2 * k) ∧ RowD wr w.heap.size n k ∧ Onto r w wr) (fun i _ => n - (intOf i).toNat)
  case atStart => exact ⟨0, Nat.zero_le _, rfl, HR.out, HB.out, HO.out⟩
  case round =>
    obtain ⟨k, hk, rfl, hR, hB, hO⟩ := hrel
    have HR1 := hidH hR
    have HB1 := hidH hB
    have HO1 := hidH hO
    clear hR hB hO HR HB HO
    by_cases hlt : k < n
    · go_wp2_with fail
      refine (pick_any 10 r (B + 1 + 2 * k) _ HR1.out (by omega)).mono ?_
      rintro e w2 ⟨x, rfl, x0, x1, hR2, hO2⟩
      have HR2 := hidH hR2
      have HO2 := hidH (HO1.out.trans hO2)
      have HB2 := hidH (HB1.out.onto hO2 (by omega))
      have x2 := x1 (by omega)
      clear x1 hR2 hO2 HR1 HB1 HO1
      have ⟨⟨y, y0, y1, hc⟩, hf⟩ := HB2.out.1.2 k hlt
      by_cases e0 : m = 0
      · subst e0
        go_wp2_with fail
        have HS := hidH (HB2.out.set (48 + x) hlt (by omega) (by omega))
        have HQ := hidH (HR2.out.set hlt0 k (.int .u8 (48 + x)))
        have HP := hidH (HO2.out.setNew (Nat.le_refl _) k (.int .u8 (48 + x)))
        clear HB2 HR2 HO2 hc hf
        generalize (w2.setCell ⟨w.heap.size, k, none⟩ (.int .u8 (48 + x))) = w3 at *
        refine (pick_any 4 r (B + 1 + 2 * k + 1) _ HQ.out (by omega)).mono ?_
        rintro e w4 ⟨z, rfl, z0, z1, hR4, hO4⟩
        have HR4 := hidH hR4
        have HO4 := hidH (HP.out.trans hO4)
        have HB4 := hidH (HS.out.onto hO4 (by omega))
        have z2 := z1 (by omega)
        clear z1 hR4 hO4 HS HQ HP
        have ⟨⟨v, v0, v1, hc⟩, hf⟩ := HB4.out.1.2 k hlt
        have hz : z = 0 ∨ z = 1 ∨ z = 2 ∨ z = 3 := by omega
        rcases hz with rfl | rfl | rfl | rfl
        all_goals
          go_wp2
          refine ⟨⟨k + 1, by omega, by go_num, ?_, ?_, ?_⟩, ?_⟩
          · rw [show B + 1 + 2 * (k + 1) = B + 1 + 2 * k + 1 + 1 by omega]; exact HR4.out.set hlt0 _ _
          · exact (first_dig HB4.out hlt (by first | exact Or.inl rfl | exact Or.inr rfl))
          · exact HO4.out.setNew (Nat.le_refl _) _ _
          · simp [intOf]; omega
      · have b0 : (m == 0) = false := beq_eq_false_iff_ne.2 e0
        clear e0
        go_wp2_with fail
        refine ⟨⟨k + 1, by omega, by go_num, ?_, ?_, ?_⟩, ?_⟩
        · exact (HR2.out.set hlt0 _ _).more (by omega)
        · exact HB2.out.next _ hlt (by omega) (by omega)
        · exact HO2.out.setNew (Nat.le_refl _) _ _
        · simp [intOf]; omega
    · obtain rfl : k = n := by omega
      obtain ⟨t, hok, ht, hcv⟩ := conv_rowD wr w.heap.size k h1 h2 HB1.out
      go_wp2
      go_ret
      exact ⟨t, hok, ht, rfl, HR1.out.more (by omega), HO1.out⟩
end Go.Proofs.YtffmhcahiabicaaDoor
