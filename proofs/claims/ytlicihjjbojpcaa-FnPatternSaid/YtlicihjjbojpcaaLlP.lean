/-
  DiffTable of the program: a table with all its differences, row by row. No conditions.
-/
import Derived.Test.YtlicihjjbojpcaaLl
import Derived.Test.YtlicihjjbojpcaaPolyL
import Derived.Test.YtlicihjjbojpcaaPolyI
import Derived.Test.YtlicihjjbojpcaaPolyT
namespace Go.Proofs.Ytlicihjjbojpcaa
set_option maxRecDepth 4000
open Go.RowKit
/-- The first m rows of a table of differences. -/
def rowsL (zs : List Int) (m : Nat) : List (List Int) := (List.range m).map fun k => difN k zs
theorem rowsL_length (zs : List Int) (m : Nat) : (rowsL zs m).length = m := by simp [rowsL]
theorem rowsL_get (zs : List Int) (m j : Nat) (h : j < m) : (rowsL zs m)[j]? = some (difN j zs) := by simp [rowsL, h]
theorem rowsL_some (zs : List Int) (m j : Nat) (xs : List Int) (h : (rowsL zs m)[j]? = some xs) : j < m ∧ xs = difN j zs := by
  have hj := (List.getElem?_eq_some_iff.1 h).1
  rw [rowsL_length] at hj
  rw [rowsL_get zs m j hj] at h
  injection h with h
  exact ⟨hj, h.symm⟩
/-- What DiffTable answers. -/
def dtA (zs : List Int) : List (List Int) := if tableOk zs && shortOk zs then rowsL zs zs.length else []
theorem dtA_yes (zs : List Int) (h : (tableOk zs && shortOk zs) = true) : dtA zs = rowsL zs zs.length := by unfold dtA; rw [if_pos h]
theorem dtA_no (zs : List Int) (h : (tableOk zs && shortOk zs) = false) : dtA zs = [] := by unfold dtA; rw [if_neg (by rw [h]; decide)]
/-- Block B holds the first m rows, and has room for n. -/
def PartL (w : World) (B n : Nat) (f : Nat → Nat) (zs : List Int) (m : Nat) : Prop :=
  LRow w B f (rowsL zs m) ∧ (∀ j, m ≤ j → j < n → w.cell? ⟨B, j, none⟩ = some (.slice none 0 0) ∧ w.frozen? ⟨B, j, none⟩ = false) ∧ (∀ j, j < m → B < f j ∧ f j < w.heap.size) ∧ (∀ i j, i < j → j < m → f i < f j) ∧ B < w.heap.size
theorem PartL.below {w w' : World} {B n m : Nat} {f : Nat → Nat} {zs : List Int} (H : PartL w B n f zs m) (hb : Below w.heap.size w w') : PartL w' B n f zs m := by
  obtain ⟨h1, h2, h3, h4, h5⟩ := H
  refine ⟨h1.below h5 hb, fun j a b => ?_, fun j hj => ?_, h4, Nat.lt_of_lt_of_le h5 hb.size⟩
  · obtain ⟨hc, hf⟩ := h2 j a b
    exact ⟨by rw [hb.cell (p := ⟨B, j, none⟩) h5]; exact hc, by rw [hb.frozen (p := ⟨B, j, none⟩) h5]; exact hf⟩
  · have := h3 j hj
    have := hb.size
    omega
theorem PartL.next {w : World} {B n m b' : Nat} {f : Nat → Nat} {zs : List Int} {a : Option Addr} {cap : Nat} (H : PartL w B n f zs m) (hm : m < n) (hR : Row w b' (b' + 1) (.slice a (difN m zs).length cap) (difN m zs)) (h1 : ∀ j, j < m → f j < b') (h2 : B < b') (h3 : b' < w.heap.size) :
    PartL (w.setCell ⟨B, m, none⟩ (.slice a (difN m zs).length cap)) B n (fun j => if j = m then b' else f j) zs (m + 1) := by
  obtain ⟨p1, p2, p3, p4, p5⟩ := H
  have hO := Onto.setCell B m w (.slice a (difN m zs).length cap)
  have hA := Apart.of_onto (lo := B) (hi := B + 1) hO (Nat.le_refl _) (Nat.lt_succ_self _)
  have hsz : (w.setCell ⟨B, m, none⟩ (.slice a (difN m zs).length cap)).heap.size = w.heap.size := by simp
  obtain ⟨hcm, hfm⟩ := p2 m (Nat.le_refl _) hm
  refine ⟨fun j xs hj => ?_, fun j a1 a2 => ?_, fun j hj => ?_, fun i j hij hj => ?_, by rw [hsz]; exact p5⟩
  · obtain ⟨hjm, rfl⟩ := rowsL_some zs (m + 1) j xs hj
    by_cases e : j = m
    · subst e
      refine ⟨a, cap, World.cell?_setCell_same _ _ _ hcm, by simpa using hfm, ?_, ?_, ?_⟩
      · simp only [if_true]; omega
      · simp only [if_true]; rw [hsz]; exact h3
      · simp only [if_true]; exact hR.apart hA (by omega)
    · obtain ⟨a0, c0, hc, hf, hne, hlt, hr⟩ := p1 j _ (rowsL_get zs m j (by omega))
      have hfj := p3 j (by omega)
      refine ⟨a0, c0, ?_, by simpa using hf, ?_, ?_, ?_⟩
      · rw [World.cell?_setCell_other _ _ _ _ (by intro h; injection h; omega)]; exact hc
      · simp only [if_neg e]; exact hne
      · simp only [if_neg e]; rw [hsz]; exact hlt
      · simp only [if_neg e]; exact hr.apart hA (by omega)
  · obtain ⟨hc, hf⟩ := p2 j (by omega) a2
    exact ⟨by rw [World.cell?_setCell_other _ _ _ _ (by intro h; injection h; omega)]; exact hc, by simpa using hf⟩
  · by_cases e : j = m
    · simp only [if_pos e]; rw [hsz]; omega
    · simp only [if_neg e]; rw [hsz]; exact p3 j (by omega)
  · by_cases e : j = m
    · subst e
      simp only [if_true, if_neg (show ¬ i = j by omega)]
      exact h1 i hij
    · simp only [if_neg e, if_neg (show ¬ i = m by omega)]
      exact p4 i j hij (by omega)
theorem PartL.rowL {w : World} {B n lo : Nat} {f : Nat → Nat} {zs : List Int} (H : PartL w B n f zs n) (h0 : 0 < n) (hn : n ≤ 1000) (hlo : lo ≤ B) : RowL w lo w.heap.size (.slice (some ⟨B, 0, none⟩) n n) (rowsL zs n) := by
  obtain ⟨p1, p2, p3, p4, p5⟩ := H
  have hl := rowsL_length zs n
  refine Or.inr ⟨B, n, f, by rw [hl], by omega, by omega, by unfold maxLen; omega, hlo, p5, p5, fun j hj => ?_, fun i j hi hj e => ?_, p1⟩
  · have := p3 j (by omega)
    omega
  · rw [hl] at hi hj
    rcases Nat.lt_trichotomy i j with h | h | h
    · have := p4 i j h hj; omega
    · exact h
    · have := p4 j i h hi; omega
theorem infoSl : (Try.prog.info? 23).map (fun i => (i.zero, i.size, i.bytes)) = some (some (.slice none 0 0), 1, 24) := by kernel_rfl
/-- A call that answers new rows of numbers. -/
def NewRowL (zss : List (List Int)) (w : World) (e : Ending) (w' : World) : Prop := ∃ v, e = .returned v ∧ RowL w' w.heap.size w'.heap.size v zss ∧ Below w.heap.size w w'
theorem made_nil (w : World) (t n : Nat) : ∀ j, j < n → (w.alloc (.cells (madeCells #[Value.slice none 0 0] n) t)).cell? ⟨w.heap.size, j, none⟩ = some (.slice none 0 0) ∧ (w.alloc (.cells (madeCells #[Value.slice none 0 0] n) t)).frozen? ⟨w.heap.size, j, none⟩ = false := by
  intro j hj
  refine ⟨?_, cells_frozen _ _ _ _⟩
  rw [World.cell?_alloc_at _ _ _ _ rfl]
  simp [madeCells, hj, Nat.mod_one]
set_option maxHeartbeats 2000000 in
theorem diffTable_any (v : Value) (zs : List Int) (w : World) (lo hi : Nat) (hv : Lies w lo hi v zs) : Calls Try.prog 30 #[v] w (NewRowL (dtA zs) w) := by
  have HV := hidH (tableValid_any v zs w lo hi hv)
  have HC := hidH fun (W : World) (hb : Below w.heap.size w W) (h0 : 0 < zs.length) (hn : zs.length ≤ 1048576) => clone_any v zs W lo hi (hv.below hb) h0 hn
  obtain ⟨a, cap, rfl, hlc, hcm, hnn, hcc⟩ := hv
  unfold maxLen at hcm
  clear hnn hcc
  cases ht : tableOk zs
  · have HA := hidH (dtA_no zs (by rw [ht]; rfl))
    rw [ht] at HV
    clear ht HC
    go_enter Try.func30, Try.ntmps30
    go_wp2_with fail
    refine HV.out.mono ?_; rintro e w1 ⟨rfl, hb⟩
    have HB := hidH hb
    clear hb
    go_wp2_with fail
    go_ret
    refine ⟨_, rfl, ?_, HB.out⟩
    rw [HA.out]
    exact Or.inl ⟨rfl, none, 0, rfl, Nat.zero_le _⟩
  · by_cases hsh : 30 < zs.length
    · have HA := hidH (dtA_no zs (by rw [ht, Bool.true_and]; exact decide_eq_false (by omega)))
      rw [ht] at HV
      clear ht HC
      go_enter Try.func30, Try.ntmps30
      go_wp2_with fail
      refine HV.out.mono ?_; rintro e w1 ⟨rfl, hb⟩
      have HB := hidH hb
      clear hb
      go_wp2_with fail
      go_ret
      refine ⟨_, rfl, ?_, HB.out⟩
      rw [HA.out]
      exact Or.inl ⟨rfl, none, 0, rfl, Nat.zero_le _⟩
    · have HA := hidH (dtA_yes zs (by rw [ht, Bool.true_and]; exact decide_eq_true (by omega)))
      have ⟨l1, _⟩ := tableOk_len zs ht
      rw [ht] at HV
      clear ht
      go_enter Try.func30, Try.ntmps30
      go_wp2_with fail
      refine HV.out.mono ?_; rintro e w1 ⟨rfl, hb⟩
      have HB := hidH hb
      have s1 := hb.size
      clear hb HV
      have hmk := run_make_row' (P := Try.prog) 50 23 (.slice none 0 0) 24 Try.underlying50 infoSl rfl .i64 .i64 zs.length (by omega) (by omega) w1
      have HBm := hidH (HB.out.alloc HB.out.size (.cells (madeCells #[Value.slice none 0 0] zs.length) 23))
      have HP0 := hidH (show PartL (w1.alloc (.cells (madeCells #[Value.slice none 0 0] zs.length) 23)) w1.heap.size zs.length (fun j => 0) zs 0 from
        ⟨fun j xs hj => by simp [rowsL] at hj, fun j _ hj => made_nil w1 _ _ j hj, fun j hj => absurd hj (Nat.not_lt_zero _), fun i j _ hj => absurd hj (Nat.not_lt_zero _), by simp⟩)
      go_wp2_with fail
      refine (HC.out _ HBm.out l1 (by omega)).mono ?_; rintro e w2 ⟨v0, rfl, hr, hb⟩
      obtain ⟨b0, c0, rfl, hc01, hc02, hb01, hb02, hk0⟩ := hr.blk l1
      have hP1 := HP0.out.below hb
      have HB2 := hidH (HBm.out.trans (hb.mono HBm.out.size))
      obtain ⟨hcz, hfz⟩ := hP1.2.1 0 (Nat.le_refl _) l1
      have hb03 : w1.heap.size < b0 := by have : (w1.alloc (.cells (madeCells #[Value.slice none 0 0] zs.length) 23)).heap.size = w1.heap.size + 1 := by simp
                                          omega
      have HP2 := hidH (hP1.next (a := some ⟨b0, 0, none⟩) (cap := c0) (b' := b0) l1 (hk0.row (Nat.le_refl _) (Nat.lt_succ_self _) hc01 hc02 rfl) (fun j hj => absurd hj (Nat.not_lt_zero _)) hb03 hb02)
      clear hr hb hP1 hk0 HC HP0 HBm hmk HB
      have HP3 := hidH (show PartL (w2.setCell ⟨w1.heap.size, 0, none⟩ (.slice (some ⟨b0, 0, none⟩) zs.length c0)) w1.heap.size zs.length (fun j => if j = 0 then b0 else 0) zs 1 from HP2.out)
      have HB3 := hidH (show Below w.heap.size w (w2.setCell ⟨w1.heap.size, 0, none⟩ (.slice (some ⟨b0, 0, none⟩) zs.length c0)) from HB2.out.setCell s1 _)
      clear HP2 HB2
      go_wp2_with fail
      go_loopw [23] (fun i wr => ∃ (k : Nat) (f : Nat → Nat), k + 1 ≤ zs.length ∧ i = .int .i64 k ∧ PartL wr w1.heap.size zs.length f zs (k + 1) ∧ Below w.heap.size w wr) (fun i _ => zs.length - (intOf i).toNat)
      case atStart => exact ⟨0, _, l1, rfl, HP3.out, HB3.out⟩
      case round =>
        obtain ⟨k, f, hk, rfl, hP, hb⟩ := hrel
        have HP := hidH hP
        have HB := hidH hb
        have hBr := hP.2.2.2.2
        clear hP hb HP3 HB3 hcz hfz
        by_cases hlt : k + 1 < zs.length
        · have hlti : (k : Int) < (zs.length : Int) - 1 := by omega
          obtain ⟨a0, c1, hc, _, _, _, hr⟩ := HP.out.1 k _ (rowsL_get zs (k + 1) k (Nat.lt_succ_self _))
          obtain ⟨hcn, hfn⟩ := HP.out.2.1 (k + 1) (Nat.le_refl _) hlt
          obtain ⟨x, ys, hxy⟩ : ∃ x ys, difN k zs = x :: ys := by
            cases hd : difN k zs with
            | nil =>
              have := difN_length k zs
              rw [hd, List.length_nil] at this
              omega
            | cons x ys => exact ⟨x, ys, rfl⟩
          have hyl : ys.length ≤ 1048576 := by
            have := difN_length k zs
            rw [hxy, List.length_cons] at this
            omega
          have hsn : difW (x :: ys) = difN (k + 1) zs := by rw [difN_snoc, hxy]
          have hl := hr.lies
          rw [hxy] at hl
          have HD := hidH (diffs_any _ x ys wr _ _ hl hyl)
          rw [hsn] at HD
          rw [hxy] at hc
          have HX := hidH hxy
          clear hr hl hxy hsn
          generalize (x :: ys).length = dl at *
          go_wp2_with fail
          refine HD.out.mono ?_; rintro e w3 ⟨u, rfl, hr3, hb3⟩
          have hdl := difN_length (k + 1) zs
          obtain ⟨b3, c3, rfl, hc31, hc32, hb31, hb32, hk3⟩ := hr3.blk (by omega)
          have hP3 := HP.out.below hb3
          have HBn := hidH ((HB.out.trans (hb3.mono HB.out.size)).setCell (p := ⟨w1.heap.size, k + 1, none⟩) s1 (.slice (some ⟨b3, 0, none⟩) (difN (k + 1) zs).length c3))
          obtain ⟨hcn3, hfn3⟩ := hP3.2.1 (k + 1) (Nat.le_refl _) hlt
          have HPn := hidH (hP3.next (a := some ⟨b3, 0, none⟩) (cap := c3) (b' := b3) hlt (hk3.row (Nat.le_refl _) (Nat.lt_succ_self _) hc31 hc32 rfl) (fun j hj => by have := HP.out.2.2.1 j hj; omega) (by omega) hb32)
          clear hr3 hb3 hk3 hP3 HD hc hcn hfn
          generalize (difN (k + 1) zs).length = dn at *
          clear hdl
          go_wp2_with fail
          go_roundw
          case rel => exact ⟨k + 1, _, hlt, by go_num, HPn.out, HBn.out⟩
          case measure => simp [intOf]; omega
        · obtain hkn : k + 1 = zs.length := by omega
          have hlti : ¬ (k : Int) < (zs.length : Int) - 1 := by omega
          have hP := HP.out
          rw [hkn] at hP
          have HR := hidH (hP.rowL (lo := w.heap.size) (by omega) (by omega) s1)
          clear hP hkn
          go_wp2_with fail
          go_ret
          refine ⟨_, rfl, ?_, HB.out⟩
          rw [HA.out]
          exact HR.out
end Go.Proofs.Ytlicihjjbojpcaa
