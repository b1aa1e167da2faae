/-
  Rows of segments: the laws' measure. No conditions.
-/
import Derived.Test.YtpkieconbfgbdaaPlanSg
namespace Go.Proofs.Ytpkieconbfgbdaa
set_option maxRecDepth 4000
open Go.RowKit
/-- The slice v is a row of the call's own that holds these segments, each with a row of its own behind it. -/
def RowSg (w : World) (lo hi : Nat) (v : Value) (cs : List (Int × List Int)) : Prop := ∃ (a : Option Addr) (cap : Nat) (L : Nat → Nat), v = .slice a cs.length cap ∧ cs.length ≤ cap ∧ cap ≤ maxLen ∧ (a = none → cap = 0) ∧ (∀ j, j < cs.length → L j ≤ L (j + 1)) ∧ lo ≤ L 0 ∧ L cs.length ≤ hi ∧
  ∀ (j : Nat) c zs, cs[j]? = some (c, zs) → ∃ b u, a = some ⟨b, 0, none⟩ ∧ lo ≤ b ∧ b < hi ∧ b < L 0 ∧ w.cell? ⟨b, j * 2, none⟩ = some (.int .i64 c) ∧ w.frozen? ⟨b, j * 2, none⟩ = false ∧ w.cell? ⟨b, j * 2 + 1, none⟩ = some u ∧ w.frozen? ⟨b, j * 2 + 1, none⟩ = false ∧ Row w (L j) (L (j + 1)) u zs
theorem mono_to {L : Nat → Nat} {n : Nat} (h : ∀ j, j < n → L j ≤ L (j + 1)) (i j : Nat) (hij : i ≤ j) (hj : j ≤ n) : L i ≤ L j := by
  induction j with
  | zero =>
    obtain rfl : i = 0 := by omega
    exact Nat.le_refl _
  | succ j ih =>
    by_cases e : i = j + 1
    · subst e; exact Nat.le_refl _
    · exact Nat.le_trans (ih (by omega) (by omega)) (h j (by omega))
theorem RowSg.lies {w : World} {lo hi : Nat} {v : Value} {cs : List (Int × List Int)} (h : RowSg w lo hi v cs) : LiesSg w hi v cs := by
  obtain ⟨a, cap, L, h1, h2, h3, h4, hL, hlo, hhi, h5⟩ := h
  refine ⟨a, cap, h1, h2, h3, h4, fun j c zs hj => ?_⟩
  obtain ⟨b, u, e, b1, b2, b3, c0, f0, c1, f1, hr⟩ := h5 j c zs hj
  have hjl := (List.getElem?_eq_some_iff.1 hj).1
  refine ⟨b, 0, u, e, b2, by rw [Nat.zero_add]; exact c0, by rw [Nat.zero_add]; exact c1, hr.lies.mono (Nat.zero_le _) (Nat.le_trans (mono_to hL (j + 1) cs.length (by omega) (Nat.le_refl _)) hhi)⟩
theorem RowSg.apart {w w' : World} {lo hi l h : Nat} {v : Value} {cs : List (Int × List Int)} (H : RowSg w l h v cs) (hA : Apart lo hi w w') (hd : h ≤ lo ∨ hi ≤ l) : RowSg w' l h v cs := by
  obtain ⟨a, cap, L, h1, h2, h3, h4, hL, hlo, hhi, h5⟩ := H
  refine ⟨a, cap, L, h1, h2, h3, h4, hL, hlo, hhi, fun j c zs hj => ?_⟩
  obtain ⟨b, u, e, b1, b2, b3, c0, f0, c1, f1, hr⟩ := h5 j c zs hj
  have hjl := (List.getElem?_eq_some_iff.1 hj).1
  have hb := cell_blk _ _ _ c0
  have hk := hA.block b hb (by omega)
  have m1 := mono_to hL 0 j (Nat.zero_le _) (by omega)
  have m2 := mono_to hL (j + 1) cs.length (by omega) (Nat.le_refl _)
  exact ⟨b, u, e, b1, b2, b3, by rw [World.cell?_of_block (w := w) hk]; exact c0, by rw [World.frozen?_of_block (w := w) hk]; exact f0, by rw [World.cell?_of_block (w := w) hk]; exact c1, by rw [World.frozen?_of_block (w := w) hk]; exact f1, hr.apart hA (by omega)⟩
theorem RowSg.below {w w' : World} {l h : Nat} {v : Value} {cs : List (Int × List Int)} (H : RowSg w l h v cs) (hb : Below w.heap.size w w') : RowSg w' l h v cs := H.apart (lo := h) (hi := h) (Apart.of_below hb) (.inl (Nat.le_refl _))
theorem RowSg.nil (w : World) (lo hi : Nat) (a : Option Addr) (cap : Nat) (hc : cap ≤ maxLen) (ha : a = none → cap = 0) (hh : lo ≤ hi) : RowSg w lo hi (.slice a 0 cap) [] := ⟨a, cap, fun _ => lo, rfl, Nat.zero_le _, hc, ha, fun _ _ => Nat.le_refl _, Nat.le_refl _, hh, fun _ _ _ h => by simp at h⟩
/-- A call that answers a new row of segments. -/
def NewSg (cs : List (Int × List Int)) (w : World) (e : Ending) (w' : World) : Prop := ∃ v, e = .returned v ∧ RowSg w' w.heap.size w'.heap.size v cs ∧ Below w.heap.size w w'
/-! ### Sizes -/
theorem szInt_any (a : Option Addr) (n cap : Nat) (w : World) (l : Nat) (hlc : n ≤ cap) (hcm : cap ≤ maxLen) (h2 : l ≤ 1048576) : Calls Try.prog 63 #[.slice a n cap, .int .i64 l] w fun e w' => (n ≤ l ∧ e = .returned (.int .i64 ((l - n : Nat) : Int)) ∨ e = .returned (.int .i64 (-1))) ∧ Below w.heap.size w w' := by
  unfold maxLen at hcm
  by_cases h : n ≤ l
  · have hd : decide ((l : Int) - (n : Int) < 0) = false := decide_eq_false (by omega)
    have hz : ((l - n : Nat) : Int) = (l : Int) - (n : Int) := by omega
    go_enter Try.func63, Try.ntmps63
    go_wp2_with fail
    go_ret
    exact ⟨.inl ⟨h, by rw [hz]; rfl⟩, Below.refl _ _⟩
  · have hd : decide ((l : Int) - (n : Int) < 0) = true := decide_eq_true (by omega)
    go_enter Try.func63, Try.ntmps63
    go_wp2_with fail
    go_ret
    exact ⟨.inr rfl, Below.refl _ _⟩
theorem szSeg_any (c : Int) (a : Option Addr) (n cap : Nat) (w : World) (l : Nat) (hlc : n ≤ cap) (hcm : cap ≤ maxLen) (h2 : l ≤ 1048576) : Calls Try.prog 44 #[.agg #[.int .i64 c, .slice a n cap], .int .i64 l] w fun e w' => (n ≤ l ∧ e = .returned (.int .i64 ((l - n : Nat) : Int)) ∨ e = .returned (.int .i64 (-1))) ∧ Below w.heap.size w w' := by
  have HS := hidH (fun W => szInt_any a n cap W l hlc hcm h2)
  have BB := hidH (bMore (Below.refl w.heap.size w) (.cells #[.int .i64 c, .slice a n cap] 57))
  unfold maxLen at hcm
  go_enter Try.func44, Try.ntmps44
  go_wp2_with fail
  refine (HS.out _).mono ?_; rintro e w1 ⟨hr, hb⟩
  have HB := hidH (bThen BB.out hb)
  clear hb
  rcases hr with ⟨hn, rfl⟩ | rfl
  · go_wp2_with fail
    go_ret
    exact ⟨.inl ⟨hn, rfl⟩, HB.out⟩
  · go_wp2_with fail
    go_ret
    exact ⟨.inr rfl, HB.out⟩
/-- What the laws' measure of a row of segments says. -/
def SizedSg (cs : List (Int × List Int)) (left : Nat) (w : World) (e : Ending) (w' : World) : Prop :=
  ∃ r : Int, e = .returned (.int .i64 r) ∧ (r = -1 ∨ (∃ m : Nat, r = m ∧ m ≤ left) ∧ cs.length ≤ left ∧ ∀ c zs, (c, zs) ∈ cs → zs.length ≤ left) ∧ Below w.heap.size w w'
set_option maxHeartbeats 800000 in
theorem szSg_any (v : Value) (cs : List (Int × List Int)) (left : Nat) (w : World) (h1 : Nat) (hv : LiesSg w h1 v cs) (hl : left ≤ 1048576) : Calls Try.prog 20 #[v, .int .i64 left] w (SizedSg cs left w) := by
  have HV := hidH hv
  obtain ⟨a, cap, rfl, hlc, hcm⟩ := hv.len
  unfold maxLen at hcm
  clear hv
  by_cases hbig : left < cs.length
  · have hd : decide ((left : Int) - (cs.length : Int) < 0) = true := decide_eq_true (by omega)
    go_enter Try.func20, Try.ntmps20
    go_wp2_with fail
    go_ret
    exact ⟨_, rfl, .inl rfl, Below.refl _ _⟩
  · go_enter Try.func20, Try.ntmps20
    go_wp2_with fail
    go_loopw [1, 5] (fun m i wr => ∃ k n : Nat, k ≤ cs.length ∧ i = .int .i64 k ∧ m = .int .i64 n ∧ n ≤ left ∧ (∀ j c zs, j < k → cs[j]? = some (c, zs) → zs.length ≤ left) ∧ Below w.heap.size w wr) (fun _ i _ => cs.length - (intOf i).toNat)
    case atStart => exact ⟨0, left - cs.length, Nat.zero_le _, rfl, by go_num, by omega, fun j _ _ hj => absurd hj (Nat.not_lt_zero _), Below.refl _ _⟩
    case round =>
      obtain ⟨k, n, hk, rfl, rfl, hn, hall, hb⟩ := hrel
      have HA := hidH hall
      have HB := hidH hb
      clear hall hb
      by_cases hlt : k < cs.length
      · obtain ⟨b, off, cc1, e, _, _, _, hcl⟩ := HV.out.addr (by omega)
        injection e with e1 e2 e3
        subst e1; subst e3
        obtain ⟨x, hx⟩ : ∃ x, cs[k]? = some x := ⟨cs[k], List.getElem?_eq_getElem hlt⟩
        obtain ⟨c, zs⟩ := x
        obtain ⟨p, q0, q1, q2⟩ := hcl k c zs hx
        have c0 : wr.cell? ⟨b, off + k * 2, none⟩ = some (.int .i64 c) := by rw [HB.out.cell (p := ⟨b, off + k * 2, none⟩) (cell_blk _ _ _ q0)]; exact q0
        have c1 : wr.cell? ⟨b, off + k * 2 + 1, none⟩ = some p := by rw [HB.out.cell (p := ⟨b, off + k * 2 + 1, none⟩) (cell_blk _ _ _ q1)]; exact q1
        obtain ⟨pa, pc, rfl, pl1, pl2, _⟩ := q2
        have HS := hidH (fun W => szSeg_any c pa zs.length pc W n pl1 pl2 (by omega))
        have HX := hidH hx
        clear hcl q0 q1 hx
        unfold maxLen at pl2
        go_wp2_with fail
        refine (HS.out _).mono ?_; rintro e w1 ⟨hr, hb⟩
        have HB1 := hidH (HB.out.trans (hb.mono HB.out.size))
        clear hb c0 c1
        rcases hr with ⟨hzn, rfl⟩ | rfl
        · go_wp2_with fail
          go_roundw
          case rel =>
            refine ⟨k + 1, n - zs.length, by omega, by go_num, rfl, by omega, fun j c' ys hj hy => ?_, HB1.out⟩
            by_cases e : j = k
            · subst e
              rw [HX.out] at hy
              injection hy with hy
              injection hy with _ hy
              rw [← hy]; omega
            · exact HA.out j c' ys (by omega) hy
          case measure => simp [intOf]; omega
        · go_wp2_with fail
          go_ret
          exact ⟨_, rfl, .inl rfl, HB1.out⟩
      · obtain rfl : k = cs.length := by omega
        go_wp2_with fail
        go_ret
        refine ⟨_, rfl, .inr ⟨⟨n, rfl, hn⟩, by omega, fun c zs hz => ?_⟩, HB.out⟩
        obtain ⟨j, hj⟩ := List.getElem?_of_mem hz
        exact HA.out j c zs (List.getElem?_eq_some_iff.1 hj).1 hj
/-! ### The conversion -/
theorem SegAt.put1 {w : World} {b : Nat} {c : Int} {v : Value} (h : SegAt w b c v) (u : Value) : SegAt (w.setCell ⟨b, 1, none⟩ u) b c u := by
  unfold SegAt at *
  simp [World.setCell, Array.getElem?_modify, h]
theorem SegAt.put0 {w : World} {b : Nat} {c : Int} {v : Value} (h : SegAt w b c v) (d : Int) : SegAt (w.setCell ⟨b, 0, none⟩ (.int .i64 d)) b d v := by
  unfold SegAt at *
  simp [World.setCell, Array.getElem?_modify, h]
theorem SegAt.free {w : World} {b : Nat} {c : Int} {v : Value} (h : SegAt w b c v) (i : Nat) : w.frozen? ⟨b, i, none⟩ = false := by
  unfold SegAt at h
  simp [World.frozen?, h]
theorem SegAt.other {w : World} {b : Nat} {c : Int} {v : Value} (h : SegAt w b c v) (p : Addr) (u : Value) (hp : b ≠ p.block) : SegAt (w.setCell p u) b c v := by
  unfold SegAt at *
  rw [heap_setCell_other _ _ _ _ hp]; exact h
theorem SegAt.alloc {w : World} {b : Nat} {c : Int} {v : Value} (h : SegAt w b c v) (o : Obj) : SegAt (w.alloc o) b c v := by
  have hl := h.lt
  unfold SegAt at *
  rw [heap_alloc_old _ _ hl]; exact h
theorem SegAt.newAt (w : World) (c : Int) (v : Value) (n : Nat) (hn : w.heap.size = n) : SegAt (w.alloc (.cells #[.int .i64 c, v] 46)) n c v := hn ▸ SegAt.fresh w c v
theorem results_seg {fn : Func} {p : Tmp} (h : fn.results = #[.cell p 46]) (tmps : Array Value) (w : World) (g : Nat) (c : Int) (v : Value)
    (hp : tmps.getD p undef = .pointer (some ⟨g, 0, none⟩)) (hg : SegAt w g c v) : (results fn tmps).run Try.prog w = .ok (.agg #[.int .i64 c, v]) w :=
  results_cell_row h tmps w g 46 _ (0, 0) _ hp hg Try.underlying46 rfl (seg_size c v)
end Go.Proofs.Ytpkieconbfgbdaa
