/-
  ParseEngine: the program and the model. Conditions: a text of at most 1048576 bytes; the library's own variable MaxLen holds some number.
-/
import Derived.Test.YtffmhcahiabicaaDoorEngTm
import Derived.Test.YtffmhcahiabicaaDoorEngBox
import Derived.Test.YtffmhcahiabicaaDoorEngF
namespace Go.Proofs.YtffmhcahiabicaaDoor
set_option maxRecDepth 4000
set_option linter.unusedVariables false
open Go.RowKit Go.Shelf
def MaxE (w : World) : Prop := ∃ m, w.cell? ⟨0, 0, none⟩ = some (.int .i64 m)
theorem MaxE.below {w w' : World} (h : MaxE w) (hb : Below w.heap.size w w') : MaxE w' := by
  obtain ⟨m, hm⟩ := h
  exact ⟨m, by rw [hb.cell (cell_blk _ _ _ hm)]; exact hm⟩
theorem maxE_of {W : World} (h : W.ShapedOpen Tryd.prog) : MaxE W := lays147.s1_3 W h
theorem cellsE_at (ps : List ByteArray) (N j : Nat) (z : ByteArray) (hj : ps[j]? = some z) : (Lib.cellsOf ps N)[j]? = some (.string z) := by
  have hlt := (List.getElem?_eq_some_iff.1 hj).1
  unfold Lib.cellsOf
  rw [List.getElem?_toArray, List.getElem?_append_left (by rw [List.length_map]; exact hlt), List.getElem?_map, hj]
  rfl
theorem textE_ne (a b : ByteArray) (h : ¬ a = b) : (a.toList == b.toList) = false := by
  rw [Lib.toList_data, Lib.toList_data, beq_eq_false_iff_ne]
  intro e
  exact h (ByteArray.ext (Array.ext' e))
theorem splitE_size (sep : ByteArray) : ∀ (k : Nat) (s : ByteArray), ∀ x ∈ Lib.splitB sep 0 k s, x.size ≤ s.size
  | 0, s, x, hx => by
    rw [Lib.splitB_zero] at hx
    simp at hx
    rw [hx]
    exact Nat.le_refl _
  | k + 1, s, x, hx => by
    unfold Lib.splitB at hx
    split at hx
    · simp at hx
      rw [hx]
      exact Nat.le_refl _
    · rcases List.mem_cons.1 hx with rfl | hx
      · rw [ByteArray.size_extract]; omega
      · have := splitE_size sep k _ x hx
        rw [ByteArray.size_extract] at this
        omega
theorem partsE_size (s : ByteArray) : ∀ x ∈ partsE s, x.size ≤ s.size := splitE_size _ _ s
theorem splitNE_any (s : ByteArray) (w : World) (hs : s.size ≤ 1048576) (hM : MaxE w) : Calls Tryd.prog 49 #[.string s, .string ⟨#[32]⟩, .int .i64 8] w (NewRowS (partsE s) w) := by
  obtain ⟨m, hm⟩ := hM
  have h := Any.strings_SplitN { lays147 with } (by kernel_rfl) s ⟨#[32]⟩ 8 m w (by omega) hm (by decide) (by decide) (by decide)
  change Calls Tryd.prog 49 _ _ _ at h
  refine h.mono ?_
  rintro e w' ⟨he, rfl⟩
  have hl := Lib.splitB_length_le ⟨#[32]⟩ 0 (min 8 (s.size + 1) - 1) s
  have hb : BlkS (w.alloc (.cells (Lib.cellsOf (partsE s) (min 8 (s.size + 1))) 9)) w.heap.size (partsE s) := by
    refine ⟨by simp, fun j z hj => ⟨?_, cells_frozen _ _ _ _⟩⟩
    rw [World.cell?_alloc_at _ _ _ _ rfl]
    exact cellsE_at _ _ _ _ hj
  exact ⟨_, he, hb.row (Nat.le_refl _) (by simp) (by unfold partsE; omega) (by unfold maxLen; omega) rfl, (Below.refl _ _).alloc (Nat.le_refl _) _⟩
theorem cutE_size (c : UInt8) : ∀ l : List UInt8, ∀ x ∈ cutL c l, x.length ≤ l.length
  | [], x, hx => by simp [cutL] at hx; simp [hx]
  | b :: r, x, hx => by
    have ih := cutE_size c r
    simp only [cutL] at hx
    split at hx
    · rcases List.mem_cons.1 hx with rfl | hx
      · simp
      · have := ih x hx; simp; omega
    · cases hc : cutL c r with
      | nil => exact absurd hc (cutL_ne c r)
      | cons y ys =>
        rw [hc] at hx ih
        rcases List.mem_cons.1 hx with rfl | hx
        · have := ih y (by simp); simp; omega
        · have := ih x (by simp [hx]); simp; omega
theorem cutE_len (c : UInt8) : ∀ l : List UInt8, (cutL c l).length ≤ l.length + 1
  | [] => by simp [cutL]
  | b :: r => by
    have ih := cutE_len c r
    simp only [cutL]
    split
    · simp; exact ih
    · cases hc : cutL c r with
      | nil => exact absurd hc (cutL_ne c r)
      | cons y ys => rw [hc] at ih; simp at ih ⊢; omega
theorem cutBE_size (s : ByteArray) : ∀ x ∈ cutB 32 s, x.size ≤ s.size := by
  intro x hx
  obtain ⟨l, hl, rfl⟩ := List.mem_map.1 hx
  have := cutE_size 32 _ l hl
  show l.toArray.size ≤ _
  simpa using this
theorem cutBE_len (s : ByteArray) : (cutB 32 s).length ≤ s.size + 1 := by
  have := cutE_len 32 s.data.toList
  unfold cutB
  rw [List.length_map]
  simpa using this
theorem emptyE_no (a : ByteArray) (h : 0 < a.size) : a.toList.isEmpty = false := by
  rw [Lib.toList_data]
  cases hl : a.data.toList with
  | nil =>
    have : a.data.toList.length = 0 := by rw [hl]; rfl
    have e : a.size = 0 := by simpa using this
    omega
  | cons x r => rfl
theorem resBox (w : World) : Below w.heap.size w (w.alloc (.cells #[.slice none 0 0] 26)) ∧ EngAt (w.alloc (.cells #[.slice none 0 0] 26)) w.heap.size (.slice none 0 0) ∧ (w.alloc (.cells #[.slice none 0 0] 26)).heap.size = w.heap.size + 1 :=
  ⟨belowN' w _, EngAt.fresh w _, by simp⟩
set_option maxHeartbeats 1000000 in
theorem parseEngine_any (s : ByteArray) (w : World) (hs : s.size ≤ 1048576) (hM : MaxE w) : Calls Tryd.prog 20 #[.string s] w (NewEngB (peL s) (peB s) w) := by
  have ⟨t1, t2, t3⟩ := resBox w
  have BB := hidH t1
  have E1 := hidH t2
  have S1 := hidH t3
  have HS := hidH (fun W (h : Below w.heap.size w W) => splitNE_any s W hs (hM.below h))
  have SZ0 := hidH (eng_size (.slice none 0 0))
  have HPM := hidH (fun c (hc : c ∈ partsE s) => show c.size ≤ 9223372036854775807 by have := partsE_size s c hc; omega)
  have HV := hidH (fun W (v : Value) l h (hl : LiesS W l h v (partsE s)) => engValid_any v (partsE s) W l h hl HPM.out)
  rw [peB_parts] at HV
  clear t1 t2 t3 hM
  cases hk : peB s
  · have HX := hidH (peL_no s hk)
    rw [hk] at HV
    clear hk
    go_enter Tryd.func20, Tryd.ntmps20
    go_wp2_with fail
    refine (HS.out _ BB.out).mono ?_; rintro e w1 ⟨v, rfl, hr, hb⟩
    have HB1 := hidH (bThen BB.out hb)
    have F1 := hidH (E1.out.below hb)
    have HR := hidH hr
    obtain ⟨a, cap, rfl⟩ := hr.some
    clear hr hb
    generalize partsE s = ps at *
    have G1 := hidH (F1.out.alloc (.cells #[.slice a ps.length cap] 26))
    have G2 := hidH (EngAt.fresh w1 (.slice a ps.length cap))
    have HB2 := hidH (bMore HB1.out (.cells #[.slice a ps.length cap] 26))
    have HR2 := hidH (HR.out.below (belowN' w1 (.slice a ps.length cap)))
    have c2 := G2.out.cell
    go_wp2_with fail
    refine (HV.out _ _ _ _ HR2.out.lies).mono ?_; rintro e w2 ⟨rfl, hb⟩
    have HB3 := hidH (bThen HB2.out hb)
    have K1 := hidH (G1.out.below hb)
    clear hb c2
    go_wp2_with (refine wpList_store_row rfl 26 _ _ rfl w.heap.size #[.slice none 0 0] rfl rfl 26 _ K1.out SZ0.out rfl nil_one ?_)
    refine bodyPost_ret (results_engB Tryd.results20 _ _ w.heap.size _ (.bool false) rfl rfl (K1.out.setRow _)) rfl ?_
    rw [HX.out]
    exact ⟨_, rfl, RowS.nil _ _ _ _ _ (Nat.zero_le _) (fun _ => rfl), bRow HB3.out (Nat.le_refl _) _⟩
  · have HX := hidH (peL_parts s hk)
    rw [hk] at HV
    clear hk
    go_enter Tryd.func20, Tryd.ntmps20
    go_wp2_with fail
    refine (HS.out _ BB.out).mono ?_; rintro e w1 ⟨v, rfl, hr, hb⟩
    have HB1 := hidH (bThen BB.out hb)
    have F1 := hidH (E1.out.below hb)
    have HR := hidH hr
    rw [S1.out] at HR
    obtain ⟨a, cap, rfl⟩ := hr.some
    clear hr hb
    generalize partsE s = ps at *
    have G1 := hidH (F1.out.alloc (.cells #[.slice a ps.length cap] 26))
    have G2 := hidH (EngAt.fresh w1 (.slice a ps.length cap))
    have HB2 := hidH (bMore HB1.out (.cells #[.slice a ps.length cap] 26))
    have HR2 := hidH (HR.out.below (belowN' w1 (.slice a ps.length cap)))
    have HS2 := hidH (show (w1.alloc (.cells #[.slice a ps.length cap] 26)).heap.size = w1.heap.size + 1 by simp)
    have c2 := G2.out.cell
    go_wp2_with fail
    refine (HV.out _ _ _ _ HR2.out.lies).mono ?_; rintro e w2 ⟨rfl, hb⟩
    have HB3 := hidH (bThen HB2.out hb)
    have K1 := hidH (G1.out.below hb)
    have K2 := hidH (G2.out.below hb)
    have HR3 := hidH (HR2.out.below hb)
    have hs3 := hb.size
    rw [HS2.out] at hs3
    clear hb c2
    have SZ := hidH (eng_size (.slice a ps.length cap))
    have SO := hidH (slice_one a ps.length cap)
    go_wp2_with (first | (refine wpList_load_row rfl 26 _ rfl w1.heap.size rfl 26 _ (0, 0) _ K2.out Tryd.underlying26 rfl SZ.out ?_) | (refine wpList_store_row rfl 26 _ _ rfl w.heap.size #[.slice a ps.length cap] rfl rfl 26 _ K1.out SZ.out rfl SO.out ?_))
    refine bodyPost_ret (results_engB Tryd.results20 _ _ w.heap.size _ (.bool true) rfl rfl (K1.out.setRow _)) rfl ?_
    rw [HX.out]
    exact ⟨_, rfl, (HR3.out.apart (Apart.of_onto (lo := w.heap.size) (hi := w.heap.size + 1) (onto_setRow w.heap.size _ _) (Nat.le_refl _) (Nat.lt_succ_self _)) (.inr (Nat.le_refl _))).mono (by omega) (by simp; omega), bRow HB3.out (Nat.le_refl _) _⟩
set_option maxHeartbeats 1000000 in
theorem sParseEngine_any (s : ByteArray) (w : World) (hs : s.size ≤ 1048576) : Calls Tryd.prog 19 #[.string s] w (NewEngB (peL s) (peB s) w) := by
  have ⟨t1, t2, t3⟩ := resBox w
  have BB := hidH t1
  have E1 := hidH t2
  have S1 := hidH t3
  have HS := hidH (fun W => l9Cut_any s 32 W hs)
  have SZ0 := hidH (eng_size (.slice none 0 0))
  have HPM := hidH (fun c (hc : c ∈ cutB 32 s) => show c.size ≤ 9223372036854775807 by have := cutBE_size s c hc; omega)
  have HF := hidH (fun W (v : Value) l h (hl : LiesS W l h v (cutB 32 s)) => sFormatEngine_any v (cutB 32 s) W l h hl HPM.out)
  clear t1 t2 t3
  cases hk : peB s
  · have HX := hidH (peL_no s hk)
    have hfe : feB (cutB 32 s) = ⟨#[]⟩ := feB_no _ hk
    rw [hfe] at HF
    clear hfe
    by_cases h0 : s.size = 0
    · have hs0 : s = ⟨#[]⟩ := ByteArray.ext (Array.eq_empty_of_size_eq_zero h0)
      subst hs0
      clear hk h0 hs
      generalize cutB 32 ⟨#[]⟩ = ps at *
      go_enter Tryd.func19, Tryd.ntmps19
      go_wp2_with fail
      refine (HS.out _).mono ?_; rintro e w1 ⟨v, rfl, hr, hb⟩
      have HB1 := hidH (bThen BB.out hb)
      have F1 := hidH (E1.out.below hb)
      have HR := hidH hr
      obtain ⟨a, cap, rfl⟩ := hr.some
      clear hr hb
      have G1 := hidH (F1.out.alloc (.cells #[.slice a ps.length cap] 26))
      have G2 := hidH (EngAt.fresh w1 (.slice a ps.length cap))
      have HB2 := hidH (bMore HB1.out (.cells #[.slice a ps.length cap] 26))
      have HR2 := hidH (HR.out.below (belowN' w1 (.slice a ps.length cap)))
      have c2 := G2.out.cell
      go_wp2_with fail
      refine (HF.out _ _ _ _ HR2.out.lies).mono ?_; rintro e w2 ⟨rfl, hb⟩
      have HB3 := hidH (bThen HB2.out hb)
      have K1 := hidH (G1.out.below hb)
      clear hb c2
      go_wp2_with (refine wpList_store_row rfl 26 _ _ rfl w.heap.size #[.slice none 0 0] rfl rfl 26 _ K1.out SZ0.out rfl nil_one ?_)
      refine bodyPost_ret (results_engB Tryd.results19 _ _ w.heap.size _ (.bool false) rfl rfl (K1.out.setRow _)) rfl ?_
      rw [HX.out]
      exact ⟨_, rfl, RowS.nil _ _ _ _ _ (Nat.zero_le _) (fun _ => rfl), bRow HB3.out (Nat.le_refl _) _⟩
    · have hne : ((⟨#[]⟩ : ByteArray).toList == s.toList) = false := textE_ne _ _ (fun e => h0 (by rw [← e]; rfl))
      have hem := emptyE_no s (by omega)
      clear hk h0
      generalize cutB 32 s = ps at *
      go_enter Tryd.func19, Tryd.ntmps19
      go_wp2_with fail
      refine (HS.out _).mono ?_; rintro e w1 ⟨v, rfl, hr, hb⟩
      have HB1 := hidH (bThen BB.out hb)
      have F1 := hidH (E1.out.below hb)
      have HR := hidH hr
      obtain ⟨a, cap, rfl⟩ := hr.some
      clear hr hb
      have G1 := hidH (F1.out.alloc (.cells #[.slice a ps.length cap] 26))
      have G2 := hidH (EngAt.fresh w1 (.slice a ps.length cap))
      have HB2 := hidH (bMore HB1.out (.cells #[.slice a ps.length cap] 26))
      have HR2 := hidH (HR.out.below (belowN' w1 (.slice a ps.length cap)))
      have c2 := G2.out.cell
      go_wp2_with fail
      refine (HF.out _ _ _ _ HR2.out.lies).mono ?_; rintro e w2 ⟨rfl, hb⟩
      have HB3 := hidH (bThen HB2.out hb)
      have K1 := hidH (G1.out.below hb)
      clear hb c2
      go_wp2_with (refine wpList_store_row rfl 26 _ _ rfl w.heap.size #[.slice none 0 0] rfl rfl 26 _ K1.out SZ0.out rfl nil_one ?_)
      refine bodyPost_ret (results_engB Tryd.results19 _ _ w.heap.size _ (.bool false) rfl rfl (K1.out.setRow _)) rfl ?_
      rw [HX.out]
      exact ⟨_, rfl, RowS.nil _ _ _ _ _ (Nat.zero_le _) (fun _ => rfl), bRow HB3.out (Nat.le_refl _) _⟩
  · have HX := hidH (peL_yes s hk)
    have hfe := peB_text s hk
    rw [hfe] at HF
    have hem := emptyE_no s (peB_pos s hk)
    clear hk hfe
    generalize cutB 32 s = ps at *
    go_enter Tryd.func19, Tryd.ntmps19
    go_wp2_with fail
    refine (HS.out _).mono ?_; rintro e w1 ⟨v, rfl, hr, hb⟩
    have HB1 := hidH (bThen BB.out hb)
    have F1 := hidH (E1.out.below hb)
    have HR := hidH hr
    rw [S1.out] at HR
    obtain ⟨a, cap, rfl⟩ := hr.some
    clear hr hb
    have G1 := hidH (F1.out.alloc (.cells #[.slice a ps.length cap] 26))
    have G2 := hidH (EngAt.fresh w1 (.slice a ps.length cap))
    have HB2 := hidH (bMore HB1.out (.cells #[.slice a ps.length cap] 26))
    have HR2 := hidH (HR.out.below (belowN' w1 (.slice a ps.length cap)))
    have HS2 := hidH (show (w1.alloc (.cells #[.slice a ps.length cap] 26)).heap.size = w1.heap.size + 1 by simp)
    have c2 := G2.out.cell
    go_wp2_with fail
    refine (HF.out _ _ _ _ HR2.out.lies).mono ?_; rintro e w2 ⟨rfl, hb⟩
    have HB3 := hidH (bThen HB2.out hb)
    have K1 := hidH (G1.out.below hb)
    have K2 := hidH (G2.out.below hb)
    have HR3 := hidH (HR2.out.below hb)
    have hs3 := hb.size
    rw [HS2.out] at hs3
    clear hb c2
    have SZ := hidH (eng_size (.slice a ps.length cap))
    have SO := hidH (slice_one a ps.length cap)
    go_wp2_with (first | (refine wpList_load_row rfl 26 _ rfl w1.heap.size rfl 26 _ (0, 0) _ K2.out Tryd.underlying26 rfl SZ.out ?_) | (refine wpList_store_row rfl 26 _ _ rfl w.heap.size #[.slice a ps.length cap] rfl rfl 26 _ K1.out SZ.out rfl SO.out ?_))
    refine bodyPost_ret (results_engB Tryd.results19 _ _ w.heap.size _ (.bool true) rfl rfl (K1.out.setRow _)) rfl ?_
    rw [HX.out]
    exact ⟨_, rfl, (HR3.out.apart (Apart.of_onto (lo := w.heap.size) (hi := w.heap.size + 1) (onto_setRow w.heap.size _ _) (Nat.le_refl _) (Nat.lt_succ_self _)) (.inr (Nat.le_refl _))).mono (by omega) (by simp; omega), bRow HB3.out (Nat.le_refl _) _⟩
end Go.Proofs.YtffmhcahiabicaaDoor
