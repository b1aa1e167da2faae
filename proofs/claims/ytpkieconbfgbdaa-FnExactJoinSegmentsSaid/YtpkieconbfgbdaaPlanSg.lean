/-
  Slices of segments in memory: a number and a slice of numbers each, that can be read. No conditions.
  Rows of segments: the laws' measure. No conditions.
  The laws' conversion of rows of segments. Condition: at most 1048576 segments, of at most 1048576 differences.
  Marks in a row of segments. Condition: not more numbers than the laws let through.
-/
import Derived.Test.YtpkieconbfgbdaaPlanBox
import Derived.Laws.MakeOwn
import Derived.Test.YtpkieconbfgbdaaSl
namespace Go.Proofs.Ytpkieconbfgbdaa
set_option maxRecDepth 4000
open Go.RowKit
/-- The slice v holds these segments, which can be read. -/
def LiesSg (w : World) (hi : Nat) (v : Value) (cs : List (Int × List Int)) : Prop := ∃ (a : Option Addr) (cap : Nat), v = .slice a cs.length cap ∧ cs.length ≤ cap ∧ cap ≤ maxLen ∧ (a = none → cap = 0) ∧
  ∀ (j : Nat) c zs, cs[j]? = some (c, zs) → ∃ b off u, a = some ⟨b, off, none⟩ ∧ b < hi ∧ w.cell? ⟨b, off + j * 2, none⟩ = some (.int .i64 c) ∧ w.cell? ⟨b, off + j * 2 + 1, none⟩ = some u ∧ Lies w 0 hi u zs
theorem LiesSg.below {w w' : World} {hi : Nat} {v : Value} {cs : List (Int × List Int)} (h : LiesSg w hi v cs) (hb : Below w.heap.size w w') : LiesSg w' hi v cs := by
  obtain ⟨a, cap, h1, h2, h3, h4, h5⟩ := h
  refine ⟨a, cap, h1, h2, h3, h4, fun j c zs hj => ?_⟩
  obtain ⟨b, off, u, e, hlt, hc, hu, hz⟩ := h5 j c zs hj
  exact ⟨b, off, u, e, hlt, by rw [hb.cell (p := ⟨b, off + j * 2, none⟩) (cell_blk _ _ _ hc)]; exact hc, by rw [hb.cell (p := ⟨b, off + j * 2 + 1, none⟩) (cell_blk _ _ _ hu)]; exact hu, hz.below hb⟩
theorem LiesSg.mono {w : World} {hi h2 : Nat} {v : Value} {cs : List (Int × List Int)} (h : LiesSg w hi v cs) (hh : hi ≤ h2) : LiesSg w h2 v cs := by
  obtain ⟨a, cap, h1, h2', h3, h4, h5⟩ := h
  refine ⟨a, cap, h1, h2', h3, h4, fun j c zs hj => ?_⟩
  obtain ⟨b, off, u, e, hlt, hc, hu, hz⟩ := h5 j c zs hj
  exact ⟨b, off, u, e, by omega, hc, hu, hz.mono (Nat.le_refl _) hh⟩
theorem LiesSg.len {w : World} {hi : Nat} {v : Value} {cs : List (Int × List Int)} (h : LiesSg w hi v cs) : ∃ a cap, v = .slice a cs.length cap ∧ cs.length ≤ cap ∧ cap ≤ maxLen := by
  obtain ⟨a, cap, h1, h2, h3, _⟩ := h
  exact ⟨a, cap, h1, h2, h3⟩
/-- .. with something in it: its address. -/
theorem LiesSg.addr {w : World} {hi : Nat} {v : Value} {cs : List (Int × List Int)} (h : LiesSg w hi v cs) (h0 : 0 < cs.length) : ∃ b off cap, v = .slice (some ⟨b, off, none⟩) cs.length cap ∧ cs.length ≤ cap ∧ cap ≤ maxLen ∧ b < w.heap.size ∧
    ∀ (j : Nat) c zs, cs[j]? = some (c, zs) → ∃ u, w.cell? ⟨b, off + j * 2, none⟩ = some (.int .i64 c) ∧ w.cell? ⟨b, off + j * 2 + 1, none⟩ = some u ∧ Lies w 0 hi u zs := by
  obtain ⟨a, cap, h1, h2, h3, _, h5⟩ := h
  obtain ⟨b, off, u, e, _, hc, _, _⟩ := h5 0 (cs[0]'h0).1 (cs[0]'h0).2 (List.getElem?_eq_getElem h0)
  subst e
  refine ⟨b, off, cap, h1, h2, h3, cell_blk _ _ _ hc, fun j c zs hj => ?_⟩
  obtain ⟨b2, off2, u2, e, _, hc2, hu2, hz2⟩ := h5 j c zs hj
  injection e with e
  injection e with e1 e2
  subst e1; subst e2
  exact ⟨u2, hc2, hu2, hz2⟩
set_option maxHeartbeats 1600000 in
theorem eqSg_yes (v u : Value) (cs : List (Int × List Int)) (w : World) (h1 h2 : Nat) (hv : LiesSg w h1 v cs) (hu : LiesSg w h2 u cs) (hn : cs.length ≤ 1048576) : Calls Try.prog 11 #[v, u] w (Gives (.bool true) w) := by
  have HV := hidH hv
  have HU := hidH hu
  obtain ⟨a, cap, rfl, hlc, hcm⟩ := hv.len
  obtain ⟨a2, cap2, rfl, hlc2, hcm2⟩ := hu.len
  unfold maxLen at hcm hcm2
  clear hv hu
  go_enter Try.func11, Try.ntmps11
  go_wp2
  go_loopw [5] (fun i wr => ∃ k : Nat, k ≤ cs.length ∧ i = .int .i64 k ∧ Below w.heap.size w wr) (fun i _ => cs.length - (intOf i).toNat)
  case atStart => exact ⟨0, Nat.zero_le _, rfl, Below.refl _ _⟩
  case round =>
    obtain ⟨k, hk, rfl, hb⟩ := hrel
    have Hb := hidH hb
    clear hb
    by_cases hlt : k < cs.length
    · obtain ⟨b, off, cc1, e, _, _, _, hcl⟩ := HV.out.addr (by omega)
      injection e with e1 e2 e3
      subst e1; subst e3
      obtain ⟨b2, off2, cc2, e, _, _, _, hcl2⟩ := HU.out.addr (by omega)
      injection e with e1 e2 e3
      subst e1; subst e3
      obtain ⟨x, hx⟩ : ∃ x, cs[k]? = some x := ⟨cs[k], List.getElem?_eq_getElem hlt⟩
      obtain ⟨c, zs⟩ := x
      obtain ⟨p, q0, q1, q2⟩ := hcl k c zs hx
      obtain ⟨p2, r0, r1, r2⟩ := hcl2 k c zs hx
      have c0 : wr.cell? ⟨b, off + k * 2, none⟩ = some (.int .i64 c) := by rw [Hb.out.cell (p := ⟨b, off + k * 2, none⟩) (cell_blk _ _ _ q0)]; exact q0
      have c1 : wr.cell? ⟨b, off + k * 2 + 1, none⟩ = some p := by rw [Hb.out.cell (p := ⟨b, off + k * 2 + 1, none⟩) (cell_blk _ _ _ q1)]; exact q1
      have d0 : wr.cell? ⟨b2, off2 + k * 2, none⟩ = some (.int .i64 c) := by rw [Hb.out.cell (p := ⟨b2, off2 + k * 2, none⟩) (cell_blk _ _ _ r0)]; exact r0
      have d1 : wr.cell? ⟨b2, off2 + k * 2 + 1, none⟩ = some p2 := by rw [Hb.out.cell (p := ⟨b2, off2 + k * 2 + 1, none⟩) (cell_blk _ _ _ r1)]; exact r1
      have HP := hidH (q2.below Hb.out)
      have HP2 := hidH (r2.below Hb.out)
      have HE := hidH (fun W (hb : Below wr.heap.size wr W) => eqSeg_yes c p p2 zs W _ _ _ _ (HP.out.below hb) (HP2.out.below hb))
      have HBc := hidH (Below.refl wr.heap.size wr)
      clear hcl hcl2 q0 q1 q2 r0 r1 r2 hx
      go_wp2_with fail
      go_region_with ((go_at_call 33; (with_reducible refine (HE.out _ (by first | exact HBc.out | exact HBc.out.drew)).mono ?_); rintro e wd ⟨rfl, hbd⟩; (have HBc := hidH (Below.trans ((Below.refl wr.heap.size wr).drew) (hbd.mono (Nat.le_refl _)))); clear hbd))
      all_goals (
        clear c0 c1 d0 d1
        go_wp2_with fail
        go_roundw
        case rel => exact ⟨k + 1, by omega, by go_num, Hb.out.trans (HBc.out.mono Hb.out.size)⟩
        case measure => simp [intOf]; omega)
    · obtain rfl : k = cs.length := by omega
      go_wp2
      go_ret
      exact ⟨rfl, Hb.out⟩
end Go.Proofs.Ytpkieconbfgbdaa
namespace Go.Proofs.Ytpkieconbfgbdaa
set_option maxRecDepth 4000
open Go.RowKit
/-- The slice v is a row of the call's own that holds these segments, each with a row of its own behind it. -/
def RowSg (w : World) (lo hi : Nat) (v : Value) (cs : List (Int × List Int)) : Prop := ∃ (a : Option Addr) (cap : Nat) (L : Nat → Nat), v = .slice a cs.length cap ∧ cs.length ≤ cap ∧ cap ≤ maxLen ∧ (a = none → cap = 0) ∧ (∀ j, j < cs.length → L j ≤ L (j + 1)) ∧ lo ≤ L 0 ∧ L cs.length ≤ hi ∧
  ∀ (j : Nat) c zs, cs[j]? = some (c, zs) → ∃ b u, a = some ⟨b, 0, none⟩ ∧ lo ≤ b ∧ b < hi ∧ b < L 0 ∧ w.cell? ⟨b, j * 2, none⟩ = some (.int .i64 c) ∧ w.frozen? ⟨b, j * 2, none⟩ = false ∧ w.cell? ⟨b, j * 2 + 1, none⟩ = some u ∧ w.frozen? ⟨b, j * 2 + 1, none⟩ = false ∧ Row w (L j) (L (j + 1)) u zs
theorem mono_to {L : Nat → Nat} {n : Nat} (h : ∀ j, j < n → L j ≤ L (j + 1)) (i j : Nat) (hij : i ≤ j) (hj : j ≤ n) : L i ≤ L j := by
  induction j with
  | zero =>
    obtain rfl : i = 0 := by omega
    exact Nat.le_refl _
  | succ j ih =>
    by_cases e : i = j + 1
    · subst e; exact Nat.le_refl _
    · exact Nat.le_trans (ih (by omega) (by omega)) (h j (by omega))
theorem RowSg.lies {w : World} {lo hi : Nat} {v : Value} {cs : List (Int × List Int)} (h : RowSg w lo hi v cs) : LiesSg w hi v cs := by
  obtain ⟨a, cap, L, h1, h2, h3, h4, hL, hlo, hhi, h5⟩ := h
  refine ⟨a, cap, h1, h2, h3, h4, fun j c zs hj => ?_⟩
  obtain ⟨b, u, e, b1, b2, b3, c0, f0, c1, f1, hr⟩ := h5 j c zs hj
  have hjl := (List.getElem?_eq_some_iff.1 hj).1
  refine ⟨b, 0, u, e, b2, by rw [Nat.zero_add]; exact c0, by rw [Nat.zero_add]; exact c1, hr.lies.mono (Nat.zero_le _) (Nat.le_trans (mono_to hL (j + 1) cs.length (by omega) (Nat.le_refl _)) hhi)⟩
theorem RowSg.apart {w w' : World} {lo hi l h : Nat} {v : Value} {cs : List (Int × List Int)} (H : RowSg w l h v cs) (hA : Apart lo hi w w') (hd : h ≤ lo ∨ hi ≤ l) : RowSg w' l h v cs := by
  obtain ⟨a, cap, L, h1, h2, h3, h4, hL, hlo, hhi, h5⟩ := H
  refine ⟨a, cap, L, h1, h2, h3, h4, hL, hlo, hhi, fun j c zs hj => ?_⟩
  obtain ⟨b, u, e, b1, b2, b3, c0, f0, c1, f1, hr⟩ := h5 j c zs hj
  have hjl := (List.getElem?_eq_some_iff.1 hj).1
  have hb := cell_blk _ _ _ c0
  have hk := hA.block b hb (by omega)
  have m1 := mono_to hL 0 j (Nat.zero_le _) (by omega)
  have m2 := mono_to hL (j + 1) cs.length (by omega) (Nat.le_refl _)
  exact ⟨b, u, e, b1, b2, b3, by rw [World.cell?_of_block (w := w) hk]; exact c0, by rw [World.frozen?_of_block (w := w) hk]; exact f0, by rw [World.cell?_of_block (w := w) hk]; exact c1, by rw [World.frozen?_of_block (w := w) hk]; exact f1, hr.apart hA (by omega)⟩
theorem RowSg.below {w w' : World} {l h : Nat} {v : Value} {cs : List (Int × List Int)} (H : RowSg w l h v cs) (hb : Below w.heap.size w w') : RowSg w' l h v cs := H.apart (lo := h) (hi := h) (Apart.of_below hb) (.inl (Nat.le_refl _))
theorem RowSg.nil (w : World) (lo hi : Nat) (a : Option Addr) (cap : Nat) (hc : cap ≤ maxLen) (ha : a = none → cap = 0) (hh : lo ≤ hi) : RowSg w lo hi (.slice a 0 cap) [] := ⟨a, cap, fun _ => lo, rfl, Nat.zero_le _, hc, ha, fun _ _ => Nat.le_refl _, Nat.le_refl _, hh, fun _ _ _ h => by simp at h⟩
/-- A call that answers a new row of segments. -/
def NewSg (cs : List (Int × List Int)) (w : World) (e : Ending) (w' : World) : Prop := ∃ v, e = .returned v ∧ RowSg w' w.heap.size w'.heap.size v cs ∧ Below w.heap.size w w'
/-! ### Sizes -/
theorem szInt_any (a : Option Addr) (n cap : Nat) (w : World) (l : Nat) (hlc : n ≤ cap) (hcm : cap ≤ maxLen) (h2 : l ≤ 1048576) : Calls Try.prog 63 #[.slice a n cap, .int .i64 l] w fun e w' => (n ≤ l ∧ e = .returned (.int .i64 ((l - n : Nat) : Int)) ∨ e = .returned (.int .i64 (-1))) ∧ Below w.heap.size w w' := by
  unfold maxLen at hcm
  by_cases h : n ≤ l
  · have hd : decide ((l : Int) - (n : Int) < 0) = false := decide_eq_false (by omega)
    have hz : ((l - n : Nat) : Int) = (l : Int) - (n : Int) := by omega
    go_enter Try.func63, Try.ntmps63
    go_wp2_with fail
    go_ret
    exact ⟨.inl ⟨h, by rw [hz]; rfl⟩, Below.refl _ _⟩
  · have hd : decide ((l : Int) - (n : Int) < 0) = true := decide_eq_true (by omega)
    go_enter Try.func63, Try.ntmps63
    go_wp2_with fail
    go_ret
    exact ⟨.inr rfl, Below.refl _ _⟩
theorem szSeg_any (c : Int) (a : Option Addr) (n cap : Nat) (w : World) (l : Nat) (hlc : n ≤ cap) (hcm : cap ≤ maxLen) (h2 : l ≤ 1048576) : Calls Try.prog 44 #[.agg #[.int .i64 c, .slice a n cap], .int .i64 l] w fun e w' => (n ≤ l ∧ e = .returned (.int .i64 ((l - n : Nat) : Int)) ∨ e = .returned (.int .i64 (-1))) ∧ Below w.heap.size w w' := by
  have HS := hidH (fun W => szInt_any a n cap W l hlc hcm h2)
  have BB := hidH (bMore (Below.refl w.heap.size w) (.cells #[.int .i64 c, .slice a n cap] 57))
  unfold maxLen at hcm
  go_enter Try.func44, Try.ntmps44
  go_wp2_with fail
  refine (HS.out _).mono ?_; rintro e w1 ⟨hr, hb⟩
  have HB := hidH (bThen BB.out hb)
  clear hb
  rcases hr with ⟨hn, rfl⟩ | rfl
  · go_wp2_with fail
    go_ret
    exact ⟨.inl ⟨hn, rfl⟩, HB.out⟩
  · go_wp2_with fail
    go_ret
    exact ⟨.inr rfl, HB.out⟩
/-- What the laws' measure of a row of segments says. -/
def SizedSg (cs : List (Int × List Int)) (left : Nat) (w : World) (e : Ending) (w' : World) : Prop :=
  ∃ r : Int, e = .returned (.int .i64 r) ∧ (r = -1 ∨ (∃ m : Nat, r = m ∧ m ≤ left) ∧ cs.length ≤ left ∧ ∀ c zs, (c, zs) ∈ cs → zs.length ≤ left) ∧ Below w.heap.size w w'
set_option maxHeartbeats 800000 in
theorem szSg_any (v : Value) (cs : List (Int × List Int)) (left : Nat) (w : World) (h1 : Nat) (hv : LiesSg w h1 v cs) (hl : left ≤ 1048576) : Calls Try.prog 20 #[v, .int .i64 left] w (SizedSg cs left w) := by
  have HV := hidH hv
  obtain ⟨a, cap, rfl, hlc, hcm⟩ := hv.len
  unfold maxLen at hcm
  clear hv
  by_cases hbig : left < cs.length
  · have hd : decide ((left : Int) - (cs.length : Int) < 0) = true := decide_eq_true (by omega)
    go_enter Try.func20, Try.ntmps20
    go_wp2_with fail
    go_ret
    exact ⟨_, rfl, .inl rfl, Below.refl _ _⟩
  · go_enter Try.func20, Try.ntmps20
    go_wp2_with fail
    go_loopw [1, 5] (fun m i wr => ∃ k n : Nat, k ≤ cs.length ∧ i = .int .i64 k ∧ m = .int .i64 n ∧ n ≤ left ∧ (∀ j c zs, j < k → cs[j]? = some (c, zs) → zs.length ≤ left) ∧ Below w.heap.size w wr) (fun _ i _ => cs.length - (intOf i).toNat)
    case atStart => exact ⟨0, left - cs.length, Nat.zero_le _, rfl, by go_num, by omega, fun j _ _ hj => absurd hj (Nat.not_lt_zero _), Below.refl _ _⟩
    case round =>
      obtain ⟨k, n, hk, rfl, rfl, hn, hall, hb⟩ := hrel
      have HA := hidH hall
      have HB := hidH hb
      clear hall hb
      by_cases hlt : k < cs.length
      · obtain ⟨b, off, cc1, e, _, _, _, hcl⟩ := HV.out.addr (by omega)
        injection e with e1 e2 e3
        subst e1; subst e3
        obtain ⟨x, hx⟩ : ∃ x, cs[k]? = some x := ⟨cs[k], List.getElem?_eq_getElem hlt⟩
        obtain ⟨c, zs⟩ := x
        obtain ⟨p, q0, q1, q2⟩ := hcl k c zs hx
        have c0 : wr.cell? ⟨b, off + k * 2, none⟩ = some (.int .i64 c) := by rw [HB.out.cell (p := ⟨b, off + k * 2, none⟩) (cell_blk _ _ _ q0)]; exact q0
        have c1 : wr.cell? ⟨b, off + k * 2 + 1, none⟩ = some p := by rw [HB.out.cell (p := ⟨b, off + k * 2 + 1, none⟩) (cell_blk _ _ _ q1)]; exact q1
        obtain ⟨pa, pc, rfl, pl1, pl2, _⟩ := q2
        have HS := hidH (fun W => szSeg_any c pa zs.length pc W n pl1 pl2 (by omega))
        have HX := hidH hx
        clear hcl q0 q1 hx
        unfold maxLen at pl2
        go_wp2_with fail
        refine (HS.out _).mono ?_; rintro e w1 ⟨hr, hb⟩
        have HB1 := hidH (HB.out.trans (hb.mono HB.out.size))
        clear hb c0 c1
        rcases hr with ⟨hzn, rfl⟩ | rfl
        · go_wp2_with fail
          go_roundw
          case rel =>
            refine ⟨k + 1, n - zs.length, by omega, by go_num, rfl, by omega, fun j c' ys hj hy => ?_, HB1.out⟩
            by_cases e : j = k
            · subst e
              rw [HX.out] at hy
              injection hy with hy
              injection hy with _ hy
              rw [← hy]; omega
            · exact HA.out j c' ys (by omega) hy
          case measure => simp [intOf]; omega
        · go_wp2_with fail
          go_ret
          exact ⟨_, rfl, .inl rfl, HB1.out⟩
      · obtain rfl : k = cs.length := by omega
        go_wp2_with fail
        go_ret
        refine ⟨_, rfl, .inr ⟨⟨n, rfl, hn⟩, by omega, fun c zs hz => ?_⟩, HB.out⟩
        obtain ⟨j, hj⟩ := List.getElem?_of_mem hz
        exact HA.out j c zs (List.getElem?_eq_some_iff.1 hj).1 hj
/-! ### The conversion -/
theorem SegAt.put1 {w : World} {b : Nat} {c : Int} {v : Value} (h : SegAt w b c v) (u : Value) : SegAt (w.setCell ⟨b, 1, none⟩ u) b c u := by
  unfold SegAt at *
  simp [World.setCell, Array.getElem?_modify, h]
theorem SegAt.put0 {w : World} {b : Nat} {c : Int} {v : Value} (h : SegAt w b c v) (d : Int) : SegAt (w.setCell ⟨b, 0, none⟩ (.int .i64 d)) b d v := by
  unfold SegAt at *
  simp [World.setCell, Array.getElem?_modify, h]
theorem SegAt.free {w : World} {b : Nat} {c : Int} {v : Value} (h : SegAt w b c v) (i : Nat) : w.frozen? ⟨b, i, none⟩ = false := by
  unfold SegAt at h
  simp [World.frozen?, h]
theorem SegAt.other {w : World} {b : Nat} {c : Int} {v : Value} (h : SegAt w b c v) (p : Addr) (u : Value) (hp : b ≠ p.block) : SegAt (w.setCell p u) b c v := by
  unfold SegAt at *
  rw [heap_setCell_other _ _ _ _ hp]; exact h
theorem SegAt.alloc {w : World} {b : Nat} {c : Int} {v : Value} (h : SegAt w b c v) (o : Obj) : SegAt (w.alloc o) b c v := by
  have hl := h.lt
  unfold SegAt at *
  rw [heap_alloc_old _ _ hl]; exact h
theorem SegAt.newAt (w : World) (c : Int) (v : Value) (n : Nat) (hn : w.heap.size = n) : SegAt (w.alloc (.cells #[.int .i64 c, v] 46)) n c v := hn ▸ SegAt.fresh w c v
theorem results_seg {fn : Func} {p : Tmp} (h : fn.results = #[.cell p 46]) (tmps : Array Value) (w : World) (g : Nat) (c : Int) (v : Value)
    (hp : tmps.getD p undef = .pointer (some ⟨g, 0, none⟩)) (hg : SegAt w g c v) : (results fn tmps).run Try.prog w = .ok (.agg #[.int .i64 c, v]) w :=
  results_cell_row h tmps w g 46 _ (0, 0) _ hp hg Try.underlying46 rfl (seg_size c v)
end Go.Proofs.Ytpkieconbfgbdaa
namespace Go.Proofs.Ytpkieconbfgbdaa
set_option maxRecDepth 4000
open Go.RowKit
set_option maxHeartbeats 800000 in
theorem toSeg_any (c : Int) (v : Value) (zs : List Int) (w : World) (hz : Lies w 0 w.heap.size v zs) (hn : zs.length ≤ 1048576) : Calls Try.prog 46 #[.agg #[.int .i64 c, v]] w fun e w' => ∃ a cap, e = .returned (.agg #[.int .i64 c, .slice a zs.length cap]) ∧ Row w' (w.heap.size + 1) w'.heap.size (.slice a zs.length cap) zs ∧ Below w.heap.size w w' := by
  have HS := hidH (fun W (h : Lies W 0 W.heap.size v zs) => toInts_any v zs W h hn)
  have HL := hidH hz
  obtain ⟨a, cap, rfl⟩ := hz.some
  clear hz
  have BB := hidH ((bMore ((bMore ((bMore (Below.refl w.heap.size w) (.cells #[.int .i64 c, .slice a zs.length cap] 57))) (.cells #[.int .i64 0, .slice none 0 0] 46))) (.cells #[.int .i64 c, .slice none 0 0] 46)))
  have E1 := hidH ((SegAt.newAt (w.alloc (.cells #[.int .i64 c, .slice a zs.length cap] 57)) 0 (.slice none 0 0) (w.heap.size + 1) (by simp)).alloc (.cells #[.int .i64 c, .slice none 0 0] 46))
  have E2 := hidH (SegAt.newAt ((w.alloc (.cells #[.int .i64 c, .slice a zs.length cap] 57)).alloc (.cells #[.int .i64 0, .slice none 0 0] 46)) c (.slice none 0 0) (w.heap.size + 1 + 1) (by simp))
  go_enter Try.func46, Try.ntmps46
  go_wp2_with fail
  refine (HS.out _ ((HL.out.below BB.out).mono (Nat.le_refl _) BB.out.size)).mono ?_; rintro e w1 ⟨u, rfl, hr, hb⟩
  have F1 := hidH (E1.out.below hb)
  have F2 := hidH (E2.out.below hb)
  have HR := hidH (hr.mono (show w.heap.size + 3 ≤ _ by simp) (Nat.le_refl _))
  have HB := hidH (bThen BB.out hb)
  obtain ⟨a', cap', rfl⟩ := hr.some
  have c2 := F2.out.cell1
  have f2 := F2.out.free 1
  have G2 := hidH (F2.out.put1 (.slice a' zs.length cap'))
  have G1 := hidH (F1.out.other ⟨w.heap.size + 1 + 1, 1, none⟩ (.slice a' zs.length cap') (by show w.heap.size + 1 ≠ w.heap.size + 1 + 1; omega))
  have HBs := hidH (HB.out.setCell (p := ⟨w.heap.size + 1 + 1, 1, none⟩) (by show w.heap.size ≤ w.heap.size + 1 + 1; omega) (.slice a' zs.length cap'))
  have HRs := hidH (HR.out)
  clear hr hb
  have SZ := hidH (seg_size c (.slice a' zs.length cap'))
  have SO := hidH (seg_one c a' zs.length cap')
  have HX := hidH (show w.heap.size + 1 + 1 < w1.heap.size from F2.out.lt)
  go_wp2_with (first | (refine wpList_load_row rfl 46 _ rfl (w.heap.size + 1 + 1) rfl 46 _ (0, 0) _ G2.out Try.underlying46 rfl SZ.out ?_) | (refine wpList_store_row rfl 46 _ _ rfl (w.heap.size + 1) #[.int .i64 c, .slice a' zs.length cap'] rfl rfl 46 _ G1.out SZ.out rfl SO.out ?_))
  refine bodyPost_ret (results_seg Try.results46 _ _ (w.heap.size + 1) c _ rfl (G1.out.setRow _ _)) rfl ?_
  exact ⟨_, _, rfl, ((HRs.out.apart (Apart.of_onto (lo := w.heap.size + 1) (hi := w.heap.size + 3) (Onto.setCell (w.heap.size + 1 + 1) 1 w1 _) (by omega) (by omega)) (.inr (Nat.le_refl _))).apart (Apart.of_onto (lo := w.heap.size + 1) (hi := w.heap.size + 3) (ontoRow (w.heap.size + 1) _ _) (by omega) (by omega)) (.inr (Nat.le_refl _))).mono (by omega) (by simp), bRow HBs.out (by omega) _⟩
def nextL (L : Nat → Nat) (k s j : Nat) : Nat := if j ≤ k then L j else s
theorem nextL_le {L : Nat → Nat} {k s j : Nat} (h : j ≤ k) : nextL L k s j = L j := if_pos h
theorem nextL_gt {L : Nat → Nat} {k s j : Nat} (h : ¬ j ≤ k) : nextL L k s j = s := if_neg h
/-- Block b holds the first k segments; the other cells are as they were made. -/
def SgTo (w : World) (b n : Nat) (L : Nat → Nat) (cs : List (Int × List Int)) (k : Nat) : Prop := (∀ i, i < n * 2 → (∃ x, w.cell? ⟨b, i, none⟩ = some x) ∧ w.frozen? ⟨b, i, none⟩ = false) ∧ (∀ j, j < k → L j ≤ L (j + 1)) ∧ b < L 0 ∧ L k = w.heap.size ∧
  ∀ (j : Nat) c zs, j < k → cs[j]? = some (c, zs) → ∃ u, w.cell? ⟨b, j * 2, none⟩ = some (.int .i64 c) ∧ w.cell? ⟨b, j * 2 + 1, none⟩ = some u ∧ Row w (L j) (L (j + 1)) u zs
theorem info_sg : (Try.prog.info? 46).map (fun i => (i.zero, i.size, i.bytes)) = some (some (.agg #[.int .i64 0, .slice none 0 0]), 2, 32) := by kernel_rfl
theorem made_sg (m i : Nat) (h : i < m * 2) : ∃ x, (madeCells #[.int .i64 0, .slice none 0 0] (m * 2))[i]? = some x := by
  have : i < (madeCells #[Value.int .i64 0, .slice none 0 0] (m * 2)).size := by simp [madeCells]; omega
  exact ⟨_, Array.getElem?_eq_getElem this⟩
set_option maxHeartbeats 1600000 in
theorem toSgs_any (v : Value) (cs : List (Int × List Int)) (w : World) (hv : LiesSg w w.heap.size v cs) (hn : cs.length ≤ 1048576) (hz : ∀ c zs, (c, zs) ∈ cs → zs.length ≤ 1048576) : Calls Try.prog 22 #[v] w (NewSg cs w) := by
  have HV := hidH hv
  have HZ := hidH hz
  obtain ⟨a, cap, rfl, hlc, hcm⟩ := hv.len
  unfold maxLen at hcm
  clear hv hz
  generalize hnn : cs.length = n at *
  have HN := hidH hnn
  clear hnn
  obtain ⟨i0, hi0, hz0, hz1, hz2⟩ := info_parts info_sg
  have hmk : (Instr.makeSlice 23 (.int .i64 (n : Int)) (.int .i64 (n : Int))).run Try.prog w = .ok (.slice (some ⟨w.heap.size, 0, none⟩) n n) (w.alloc (.cells (madeCells #[.int .i64 0, .slice none 0 0] (n * 2)) 46)) := by
    have hr := run_make (P := Try.prog) (w := w) 23 46 i0 _ Try.underlying23 hi0 hz0 .i64 .i64 n n (by omega) (Int.le_refl _) (by rw [hz2]; omega) (by omega)
    rw [hz1] at hr
    simpa [Value.cells] using hr
  clear hi0 hz0 hz1 hz2
  have HM := hidH (show SgTo (w.alloc (.cells (madeCells #[.int .i64 0, .slice none 0 0] (n * 2)) 46)) w.heap.size n (fun _ => w.heap.size + 1) cs 0 from ⟨fun i hi => ⟨by
      obtain ⟨x, hx⟩ := made_sg n i hi
      exact ⟨x, by rw [World.cell?_alloc_at _ _ _ _ rfl]; exact hx⟩, cells_frozen _ _ _ _⟩, fun _ h => absurd h (Nat.not_lt_zero _), Nat.lt_succ_self _, by simp, fun _ _ _ h => absurd h (Nat.not_lt_zero _)⟩)
  go_enter Try.func22, Try.ntmps22
  go_wp2_with fail
  go_loopw [4] (fun i wr => ∃ (k : Nat) (L : Nat → Nat), k ≤ n ∧ i = .int .i64 k ∧ SgTo wr w.heap.size n L cs k ∧ Below w.heap.size w wr) (fun i _ => n - (intOf i).toNat)
  case atStart => exact ⟨0, _, Nat.zero_le _, rfl, HM.out, (Below.refl _ _).alloc (Nat.le_refl _) _⟩
  case round =>
    obtain ⟨k, L, hk, rfl, hs, hb⟩ := hrel
    have HS := hidH hs
    have Hb := hidH hb
    clear hs hb
    by_cases hlt : k < n
    · have hlk : k < cs.length := by rw [HN.out]; exact hlt
      obtain ⟨b, off, cc1, e, _, _, _, hcl⟩ := HV.out.addr (by omega)
      injection e with e1 e2 e3
      subst e1; subst e3
      clear e2
      obtain ⟨x, hx⟩ : ∃ x, cs[k]? = some x := ⟨cs[k], List.getElem?_eq_getElem hlk⟩
      obtain ⟨c, zs⟩ := x
      obtain ⟨p, q0, q1, q2⟩ := hcl k c zs hx
      have c0 : wr.cell? ⟨b, off + k * 2, none⟩ = some (.int .i64 c) := by rw [Hb.out.cell (p := ⟨b, off + k * 2, none⟩) (cell_blk _ _ _ q0)]; exact q0
      have c1 : wr.cell? ⟨b, off + k * 2 + 1, none⟩ = some p := by rw [Hb.out.cell (p := ⟨b, off + k * 2 + 1, none⟩) (cell_blk _ _ _ q1)]; exact q1
      have HP := hidH ((q2.below Hb.out).mono (Nat.le_refl _) Hb.out.size)
      have hzl := HZ.out c zs (List.mem_of_getElem? hx)
      have HX := hidH hx
      clear hcl q0 q1 q2 hx hlk
      go_wp2_with fail
      refine (toSeg_any c p zs _ HP.out hzl).mono ?_; rintro e w3 ⟨ua, uc, rfl, hr, hb⟩
      have hs3 := hb.size
      obtain ⟨s1, s2, s3, s4, s5⟩ := HS.out
      have hbw : w.heap.size < wr.heap.size := by have := s4; have := mono_to s2 0 k (Nat.zero_le _) (Nat.le_refl _); omega
      have S1 := hidH (fun i (hi : i < n * 2) => show (∃ x, w3.cell? ⟨w.heap.size, i, none⟩ = some x) ∧ w3.frozen? ⟨w.heap.size, i, none⟩ = false from by
        rw [hb.cell (p := ⟨w.heap.size, i, none⟩) hbw, World.frozen?_of_block (w := wr) (hb.block w.heap.size hbw)]; exact s1 i hi)
      have S5 := hidH (fun (j : Nat) c zs (hj : j < k) (h : cs[j]? = some (c, zs)) => show ∃ u, w3.cell? ⟨w.heap.size, j * 2, none⟩ = some (.int .i64 c) ∧ w3.cell? ⟨w.heap.size, j * 2 + 1, none⟩ = some u ∧ Row w3 (L j) (L (j + 1)) u zs from by
        obtain ⟨u, g0, g1, g2⟩ := s5 j c zs hj h
        exact ⟨u, by rw [hb.cell (p := ⟨w.heap.size, j * 2, none⟩) hbw]; exact g0, by rw [hb.cell (p := ⟨w.heap.size, j * 2 + 1, none⟩) hbw]; exact g1, g2.below hb⟩)
      have HR := hidH hr
      have Hb3 := hidH (Hb.out.trans (hb.mono Hb.out.size))
      have S2 := hidH s2
      have S34 := hidH (And.intro s3 s4)
      have hb3 : w.heap.size < w3.heap.size := by omega
      obtain ⟨⟨x0, d0⟩, f0⟩ := S1.out (k * 2) (by omega)
      obtain ⟨⟨x1, d1⟩, f1⟩ := S1.out (k * 2 + 1) (by omega)
      clear hr hb c0 c1 HP s1 s2 s3 s4 s5 HS
      go_wp2_with fail
      go_roundw
      case rel =>
        obtain ⟨s3, s4⟩ := S34.out
        have hset : ∀ (p : Addr) (y : Value), p.block = w.heap.size → Onto w.heap.size w3 (w3.setCell p y) := by
          rintro ⟨pb, pi, ps⟩ y rfl
          exact ⟨rfl, rfl, rfl, by simp, fun q _ hq => by rw [heap_setCell_other _ _ _ _ hq]⟩
        refine ⟨k + 1, nextL L k w3.heap.size, by omega, by go_num, ⟨fun i hi => ⟨?_, by simpa using (S1.out i hi).2⟩, fun j hj => ?_, ?_, ?_, fun j c' zs' hj h => ?_⟩, (Hb3.out.setCell (Nat.le_refl _) _).setCell (Nat.le_refl _) _⟩
        · obtain ⟨x, hx⟩ := (S1.out i hi).1
          by_cases e1 : i = k * 2 + 1
          · subst e1
            exact ⟨_, World.cell?_setCell_same _ _ _ (by rw [World.cell?_setCell_other _ _ _ _ (by intro h; injection h; omega)]; exact hx)⟩
          · by_cases e0 : i = k * 2
            · subst e0
              exact ⟨_, by rw [World.cell?_setCell_other _ _ _ _ (by intro h; injection h; omega)]; exact World.cell?_setCell_same _ _ _ hx⟩
            · exact ⟨x, by rw [World.cell?_setCell_other _ _ _ _ (by intro h; injection h; omega), World.cell?_setCell_other _ _ _ _ (by intro h; injection h; omega)]; exact hx⟩
        · by_cases e : j = k
          · subst e; rw [nextL_le (Nat.le_refl _), nextL_gt (by omega), s4]; exact hs3
          · rw [nextL_le (by omega), nextL_le (by omega)]; exact S2.out j (by omega)
        · rw [nextL_le (Nat.zero_le _)]; exact s3
        · rw [nextL_gt (by omega)]; simp
        · have hA : Apart w.heap.size (w.heap.size + 1) w3 ((w3.setCell ⟨w.heap.size, k * 2, none⟩ (.int .i64 c)).setCell ⟨w.heap.size, k * 2 + 1, none⟩ (.slice ua zs.length uc)) :=
            (Apart.of_onto (Onto.setCell w.heap.size (k * 2) w3 _) (Nat.le_refl _) (Nat.lt_succ_self _)).trans (Apart.of_onto (Onto.setCell w.heap.size (k * 2 + 1) _ _) (Nat.le_refl _) (Nat.lt_succ_self _))
          have hm := fun i (hi : i ≤ k) => mono_to S2.out 0 i (Nat.zero_le _) hi
          by_cases e : j = k
          · subst e
            rw [HX.out] at h
            injection h with h
            injection h with h1 h2
            subst h1; subst h2
            refine ⟨_, ?_, World.cell?_setCell_same _ _ _ (by rw [World.cell?_setCell_other _ _ _ _ (by intro h; injection h; omega)]; exact d1), ?_⟩
            · rw [World.cell?_setCell_other _ _ _ _ (by intro h; injection h; omega)]; exact World.cell?_setCell_same _ _ _ d0
            · rw [nextL_le (Nat.le_refl _), nextL_gt (by omega), s4]
              exact (HR.out.apart hA (.inr (by omega))).mono (by omega) (Nat.le_refl _)
          · obtain ⟨u, g0, g1, g2⟩ := S5.out j c' zs' (by omega) h
            refine ⟨u, ?_, ?_, ?_⟩
            · rw [World.cell?_setCell_other _ _ _ _ (by intro h; injection h; omega), World.cell?_setCell_other _ _ _ _ (by intro h; injection h; omega)]; exact g0
            · rw [World.cell?_setCell_other _ _ _ _ (by intro h; injection h; omega), World.cell?_setCell_other _ _ _ _ (by intro h; injection h; omega)]; exact g1
            · rw [nextL_le (by omega), nextL_le (by omega)]
              exact g2.apart hA (.inr (by have := hm j (by omega); omega))
      case measure => simp [intOf]; omega
    · obtain rfl : k = n := by omega
      go_wp2_with fail
      go_ret
      obtain ⟨s1, s2, s3, s4, s5⟩ := HS.out
      have hk' := HN.out
      refine ⟨_, rfl, ⟨some ⟨w.heap.size, 0, none⟩, k, L, by rw [hk']; rfl, by rw [hk']; exact Nat.le_refl _, by unfold maxLen; omega, (fun e => by cases e), by rw [hk']; exact s2, by omega, by rw [hk', s4]; exact Nat.le_refl _, fun j c zs hj => ?_⟩, Hb.out⟩
      have hjl := (List.getElem?_eq_some_iff.1 hj).1
      obtain ⟨u, g0, g1, g2⟩ := s5 j c zs (by omega) hj
      exact ⟨_, u, rfl, Nat.le_refl _, by have := mono_to s2 0 k (Nat.zero_le _) (Nat.le_refl _); omega, s3, g0, (s1 (j * 2) (by omega)).2, g1, (s1 (j * 2 + 1) (by omega)).2, g2⟩
end Go.Proofs.Ytpkieconbfgbdaa
namespace Go.Proofs.Ytpkieconbfgbdaa
set_option maxRecDepth 4000
open Go.RowKit
/-- The number of all differences of a row of segments. -/
def lenS (cs : List (Int × List Int)) : Nat := (cs.map fun s => s.2.length).sum
/-- .. and of all numbers in it. -/
def totS (cs : List (Int × List Int)) : Nat := cs.length + lenS cs
theorem lenS_snoc (cs : List (Int × List Int)) (k : Nat) (s : Int × List Int) (h : cs[k]? = some s) : lenS (cs.take (k + 1)) = lenS (cs.take k) + s.2.length := by
  unfold lenS
  rw [List.take_add_one, h, List.map_append, List.sum_append]
  simp
theorem lenS_mem {cs : List (Int × List Int)} {c : Int} {zs : List Int} (h : (c, zs) ∈ cs) : zs.length ≤ lenS cs := by
  induction cs with
  | nil => cases h
  | cons s cs ih =>
    unfold lenS at *
    rw [List.map_cons, List.sum_cons]
    rcases List.mem_cons.1 h with e | e
    · subst e; exact Nat.le_add_right _ _
    · have := ih e; omega
theorem totS_snoc (cs : List (Int × List Int)) (k : Nat) (s : Int × List Int) (h : cs[k]? = some s) : totS (cs.take (k + 1)) = totS (cs.take k) + (1 + s.2.length) := by
  have hk := (List.getElem?_eq_some_iff.1 h).1
  unfold totS
  rw [lenS_snoc cs k s h, List.length_take, List.length_take]
  omega
theorem totS_take (cs : List (Int × List Int)) (k : Nat) : totS (cs.take k) ≤ totS cs := by
  have h : totS cs = totS (cs.take k) + totS (cs.drop k) := by
    have e := List.take_append_drop k cs
    unfold totS lenS
    conv => lhs; rw [← e]
    rw [List.length_append, List.map_append, List.sum_append]
    omega
  omega
/-- The marks of a row of segments from k on. -/
def mkS : List (Int × List Int) → Int → List (Int × List Int)
  | [], _ => []
  | s :: cs, k => (k, upFrom (k + 1) s.2.length) :: mkS cs (k + 1 + s.2.length)
theorem mkS_length (cs : List (Int × List Int)) (k : Int) : (mkS cs k).length = cs.length := by
  induction cs generalizing k with
  | nil => rfl
  | cons s cs ih => simp [mkS, ih]
theorem mkS_at (cs : List (Int × List Int)) (k : Int) (j : Nat) (s : Int × List Int) (h : cs[j]? = some s) : (mkS cs k)[j]? = some (k + totS (cs.take j), upFrom (k + totS (cs.take j) + 1) s.2.length) := by
  induction cs generalizing k j with
  | nil => simp at h
  | cons t cs ih =>
    cases j with
    | zero =>
      have e : t = s := by simpa using h
      subst e
      simp [mkS, totS, lenS]
    | succ j =>
      have h' : cs[j]? = some s := by simpa using h
      have e : k + 1 + (t.2.length : Int) + (totS (cs.take j) : Int) = k + (totS ((t :: cs).take (j + 1)) : Int) := by
        simp only [totS, lenS, List.take_succ_cons, List.length_cons, List.map_cons, List.sum_cons]
        omega
      show (mkS cs (k + 1 + (t.2.length : Int)))[j]? = _
      rw [ih _ j h', e]
def mixS (cs : List (Int × List Int)) (k0 : Int) (k : Nat) : List (Int × List Int) := (mkS cs k0).take k ++ cs.drop k
theorem mixS_length (cs : List (Int × List Int)) (k0 : Int) (k : Nat) (h : k ≤ cs.length) : (mixS cs k0 k).length = cs.length := by
  unfold mixS
  rw [List.length_append, List.length_take, List.length_drop, mkS_length]
  omega
theorem mixS_zero (cs : List (Int × List Int)) (k0 : Int) : mixS cs k0 0 = cs := by simp [mixS]
theorem mixS_all (cs : List (Int × List Int)) (k0 : Int) : mixS cs k0 cs.length = mkS cs k0 := by
  unfold mixS
  rw [List.drop_length, List.append_nil, List.take_of_length_le (by rw [mkS_length]; exact Nat.le_refl _)]
theorem mixS_at (cs : List (Int × List Int)) (k0 : Int) (k : Nat) (h : k < cs.length) : (mixS cs k0 k)[k]? = cs[k]? := by
  unfold mixS
  rw [List.getElem?_append_right (by rw [List.length_take, mkS_length]; omega), List.length_take, mkS_length, Nat.min_eq_left (by omega), Nat.sub_self, List.getElem?_drop, Nat.add_zero]
theorem mixS_next (cs : List (Int × List Int)) (k0 : Int) (k : Nat) (s : Int × List Int) (h : cs[k]? = some s) : (mixS cs k0 k).set k (k0 + totS (cs.take k), upFrom (k0 + totS (cs.take k) + 1) s.2.length) = mixS cs k0 (k + 1) := by
  have hk := (List.getElem?_eq_some_iff.1 h).1
  unfold mixS
  rw [List.set_append_right _ _ (by rw [List.length_take, mkS_length]; omega), List.length_take, mkS_length, Nat.min_eq_left (by omega), Nat.sub_self, List.drop_eq_getElem_cons (by omega), List.set_cons_zero, List.take_add_one, mkS_at cs k0 k s h]
  simp
/-- The segments lie in block b, with rows of their own between the bounds L. -/
def SgAt (w : World) (b : Nat) (L : Nat → Nat) (cs : List (Int × List Int)) : Prop := ∀ (j : Nat) c zs, cs[j]? = some (c, zs) → ∃ u, w.cell? ⟨b, j * 2, none⟩ = some (.int .i64 c) ∧ w.frozen? ⟨b, j * 2, none⟩ = false ∧ w.cell? ⟨b, j * 2 + 1, none⟩ = some u ∧ w.frozen? ⟨b, j * 2 + 1, none⟩ = false ∧ Row w (L j) (L (j + 1)) u zs
theorem RowSg.at {w : World} {lo hi : Nat} {v : Value} {cs : List (Int × List Int)} (h : RowSg w lo hi v cs) (h0 : 0 < cs.length) : ∃ b cap L, v = .slice (some ⟨b, 0, none⟩) cs.length cap ∧ cs.length ≤ cap ∧ cap ≤ maxLen ∧ (∀ j, j < cs.length → L j ≤ L (j + 1)) ∧ lo ≤ L 0 ∧ L cs.length ≤ hi ∧ lo ≤ b ∧ b < hi ∧ b < L 0 ∧ SgAt w b L cs := by
  obtain ⟨a, cap, L, h1, h2, h3, h4, hL, hlo, hhi, h5⟩ := h
  obtain ⟨b, u, e, b1, b2, b3, _⟩ := h5 0 (cs[0]'h0).1 (cs[0]'h0).2 (List.getElem?_eq_getElem h0)
  subst e
  refine ⟨b, cap, L, h1, h2, h3, hL, hlo, hhi, b1, b2, b3, fun j c zs hj => ?_⟩
  obtain ⟨b', u', e, _, _, _, c0, f0, c1, f1, hr⟩ := h5 j c zs hj
  injection e with e
  injection e with e
  subst e
  exact ⟨u', c0, f0, c1, f1, hr⟩
theorem SgAt.row {w : World} {lo hi b n cap : Nat} {L : Nat → Nat} {cs : List (Int × List Int)} (h : SgAt w b L cs) (hn : n = cs.length) (h2 : cs.length ≤ cap) (h3 : cap ≤ maxLen) (hL : ∀ j, j < cs.length → L j ≤ L (j + 1)) (hlo : lo ≤ L 0) (hhi : L cs.length ≤ hi) (b1 : lo ≤ b) (b2 : b < hi) (b3 : b < L 0) : RowSg w lo hi (.slice (some ⟨b, 0, none⟩) n cap) cs :=
  ⟨some ⟨b, 0, none⟩, cap, L, by rw [hn], h2, h3, (fun e => by cases e), hL, hlo, hhi, fun j c zs hj => by
    obtain ⟨u, c0, f0, c1, f1, hr⟩ := h j c zs hj
    exact ⟨b, u, rfl, b1, b2, b3, c0, f0, c1, f1, hr⟩⟩
/-- One segment is written anew: its number, and then its row. -/
theorem SgAt.upd {w w' : World} {b k : Nat} {L : Nat → Nat} {cs : List (Int × List Int)} {c : Int} {zs : List Int} {u : Value} (h : SgAt w b L cs) (hL : ∀ j, j < cs.length → L j ≤ L (j + 1)) (hb : b < L 0) (hk : cs[k]? = some (c, zs)) (hu : w.cell? ⟨b, k * 2 + 1, none⟩ = some u) (d : Int) (ys : List Int)
    (hA : Apart (L k) (L (k + 1)) (w.setCell ⟨b, k * 2, none⟩ (.int .i64 d)) w') (hr : Row w' (L k) (L (k + 1)) u ys) : SgAt w' b L (cs.set k (d, ys)) := by
  intro j c' zs' hj
  have hkl := (List.getElem?_eq_some_iff.1 hk).1
  have hjl : j < cs.length := by have := (List.getElem?_eq_some_iff.1 hj).1; rwa [List.length_set] at this
  obtain ⟨u0, k0, kf, k1, kf1, kr⟩ := h k c zs hk
  have hbw : b < w.heap.size := cell_blk _ _ _ k0
  have hm := mono_to hL
  have hbk : b < L k := Nat.lt_of_lt_of_le hb (hm 0 k (Nat.zero_le _) (by omega))
  have hblk := hA.block b (by simpa using hbw) (.inl hbk)
  have hcell (i : Nat) : w'.cell? ⟨b, i, none⟩ = (w.setCell ⟨b, k * 2, none⟩ (.int .i64 d)).cell? ⟨b, i, none⟩ := World.cell?_of_block (a := ⟨b, i, none⟩) hblk
  have hfro (i : Nat) : w'.frozen? ⟨b, i, none⟩ = (w.setCell ⟨b, k * 2, none⟩ (.int .i64 d)).frozen? ⟨b, i, none⟩ := World.frozen?_of_block (a := ⟨b, i, none⟩) hblk
  by_cases e : j = k
  · subst e
    rw [List.getElem?_set_self hkl] at hj
    injection hj with hj
    injection hj with e1 e2
    subst e1; subst e2
    refine ⟨u, ?_, ?_, ?_, ?_, hr⟩
    · rw [hcell]; exact World.cell?_setCell_same _ _ _ k0
    · rw [hfro]; simpa using kf
    · rw [hcell, World.cell?_setCell_other _ _ _ _ (by intro h; injection h; omega)]; exact hu
    · rw [hfro]; simpa using kf1
  · rw [List.getElem?_set_ne (fun h => e h.symm)] at hj
    obtain ⟨u', g0, gf, g1, gf1, gr⟩ := h j c' zs' hj
    refine ⟨u', ?_, ?_, ?_, ?_, ?_⟩
    · rw [hcell, World.cell?_setCell_other _ _ _ _ (by intro h; injection h; omega)]; exact g0
    · rw [hfro]; simpa using gf
    · rw [hcell, World.cell?_setCell_other _ _ _ _ (by intro h; injection h; omega)]; exact g1
    · rw [hfro]; simpa using gf1
    · have h1 : L 0 ≤ L j := hm 0 j (Nat.zero_le _) (by omega)
      refine (gr.apart (Apart.of_onto (lo := b) (hi := b + 1) (Onto.setCell b (k * 2) w _) (Nat.le_refl _) (Nat.lt_succ_self _)) (.inr (by omega))).apart hA ?_
      rcases Nat.lt_or_gt_of_ne e with h | h
      · exact .inl (hm (j + 1) k (by omega) (by omega))
      · exact .inr (hm (k + 1) j (by omega) (by omega))
set_option maxHeartbeats 1600000 in
theorem markSg_any (v : Value) (cs : List (Int × List Int)) (k0 : Int) (w : World) (lo hi : Nat) (hv : RowSg w lo hi v cs) (hk1 : 0 ≤ k0) (hT : k0 + totS cs ≤ 4194304) (hS : totS cs ≤ 1048576) : Calls Try.prog 14 #[v, .int .i64 k0] w fun e w' => e = .returned (.int .i64 (k0 + totS cs)) ∧ RowSg w' lo hi v (mkS cs k0) ∧ Apart lo hi w w' := by
  by_cases h0 : cs.length = 0
  · obtain rfl : cs = [] := List.eq_nil_of_length_eq_zero h0
    obtain ⟨a, cap, L, rfl, hlc, hcm, hnil, hL, hlo, hhi, _⟩ := hv
    have HR := hidH (fun W => RowSg.nil W lo hi a cap hcm hnil (Nat.le_trans hlo hhi))
    unfold maxLen at hcm
    clear hnil hL
    go_enter Try.func14, Try.ntmps14
    go_wp2_with fail
    go_loopw [1, 5] (fun m i wr => i = .int .i64 0 ∧ m = .int .i64 k0 ∧ w = wr) (fun _ _ _ => 0)
    case atStart => exact ⟨rfl, rfl, rfl⟩
    case round =>
      obtain ⟨rfl, rfl, rfl⟩ := hrel
      go_wp2_with fail
      go_ret
      exact ⟨by simp [totS, lenS], HR.out _, Apart.of_below (Below.refl _ _)⟩
  · obtain ⟨b, cap, L, rfl, hlc, hcm, hL, hlo, hhi, b1, b2, b3, hat⟩ := hv.at (by omega)
    have HL := hidH hL
    have HAT := hidH hat
    have HCM := hidH hcm
    unfold maxLen at hcm
    have HTT := hidH (fun k => totS_take cs k)
    clear hv hL hat h0
    generalize hnn : cs.length = n at *
    have HN := hidH hnn
    clear hnn
    go_enter Try.func14, Try.ntmps14
    go_wp2_with fail
    go_loopw [1, 5] (fun m i wr => ∃ k : Nat, k ≤ n ∧ i = .int .i64 k ∧ m = .int .i64 (k0 + totS (cs.take k)) ∧ SgAt wr b L (mixS cs k0 k) ∧ Apart lo hi w wr) (fun _ i _ => n - (intOf i).toNat)
    case atStart => exact ⟨0, Nat.zero_le _, rfl, by simp [totS, lenS], by rw [mixS_zero]; exact HAT.out, Apart.of_below (Below.refl _ _)⟩
    case round =>
      obtain ⟨k, hk, rfl, rfl, hs, ha⟩ := hrel
      have HS := hidH hs
      have HA := hidH ha
      clear hs ha
      by_cases hlt : k < n
      · obtain ⟨x, hx⟩ : ∃ x, cs[k]? = some x := ⟨cs[k]'(by rw [HN.out]; exact hlt), List.getElem?_eq_getElem _⟩
        obtain ⟨c, zs⟩ := x
        have hmk : (mixS cs k0 k)[k]? = some (c, zs) := by rw [mixS_at cs k0 k (by rw [HN.out]; exact hlt)]; exact hx
        obtain ⟨u, c0, f0, c1, f1, hr⟩ := HS.out k c zs hmk
        obtain ⟨ua, uc, rfl⟩ := hr.some
        have HMK := hidH hmk
        have HX := hidH hx
        have HTN := hidH (totS_snoc cs k (c, zs) hx)
        have htt : totS (cs.take (k + 1)) ≤ totS cs := HTT.out (k + 1)
        rw [HTN.out] at htt
        have htt2 : totS (cs.take k) + (1 + zs.length) ≤ totS cs := htt
        have HNX := hidH (mixS_next cs k0 k (c, zs) hx)
        have hlc1 : (mixS cs k0 k).length = n := by rw [mixS_length cs k0 k (by rw [HN.out]; omega), HN.out]
        have HLm := hidH (fun j (hj : j < (mixS cs k0 k).length) => HL.out j (by rw [hlc1] at hj; exact hj))
        have hkn := mono_to HL.out (k + 1) n (by omega) (Nat.le_refl _)
        have hk0 := mono_to HL.out 0 k (Nat.zero_le _) (by omega)
        have HBL := hidH (show b < L k ∧ lo ≤ L k ∧ L (k + 1) ≤ hi by omega)
        generalize hM : k0 + (totS (cs.take k) : Int) = M at *
        have hM1 : 0 ≤ M := by omega
        have hzl : zs.length ≤ 1048576 := by omega
        have hM2 : M + 1 + zs.length ≤ 4194304 := by omega
        have HMM := hidH hM
        have HR1 := hidH (hr.apart (Apart.of_onto (lo := b) (hi := b + 1) (Onto.setCell b (k * 2) wr (.int .i64 M)) (Nat.le_refl _) (Nat.lt_succ_self _)) (.inr (by omega)))
        have c1' : (wr.setCell ⟨b, k * 2, none⟩ (.int .i64 M)).cell? ⟨b, k * 2 + 1, none⟩ = some (.slice ua zs.length uc) := by rw [World.cell?_setCell_other _ _ _ _ (by intro h; injection h; omega)]; exact c1
        have HC1 := hidH c1
        clear hr hmk hx hM htt htt2 hkn hk0 hlc1 c1
        go_wp2_with fail
        refine (mark_any _ zs (M + 1) _ _ _ HR1.out (by omega) (by omega) (by omega)).mono ?_; rintro e w5 ⟨rfl, hr, ha⟩
        have HU := hidH (HS.out.upd HLm.out b3 HMK.out HC1.out M (upFrom (M + 1) zs.length) ha hr)
        have HAA := hidH (HA.out.trans ((Apart.of_onto (lo := lo) (hi := hi) (Onto.setCell b (k * 2) wr (.int .i64 M)) b1 b2).trans ⟨ha.os, ha.tape, ha.output, ha.size, fun q hq hd => ha.block q hq (by have := HBL.out; omega)⟩))
        clear hr ha c0 f0 f1 c1'
        go_wp2_with fail
        go_roundw
        case rel =>
          refine ⟨k + 1, by omega, by go_num, ?_, ?_, HAA.out⟩
          · rw [HTN.out]; have := HMM.out; congr 1; show M + 1 + (zs.length : Int) = k0 + ((totS (cs.take k) + (1 + zs.length) : Nat) : Int); omega
          · rw [← HNX.out]; exact HU.out
        case measure => simp [intOf]; omega
      · obtain rfl : k = n := by omega
        have hcs : cs.take k = cs := by rw [← HN.out, List.take_length]
        have HE := hidH (show k0 + (totS (cs.take k) : Int) = k0 + (totS cs : Int) by rw [hcs])
        have hs := HS.out
        rw [show mixS cs k0 k = mkS cs k0 by rw [← HN.out]; exact mixS_all cs k0] at hs
        have HS2 := hidH hs
        clear hs hcs HS
        go_wp2_with fail
        go_ret
        refine ⟨by rw [← HE.out]; rfl, HS2.out.row (by rw [mkS_length, HN.out]) (by rw [mkS_length, HN.out]; exact hlc) HCM.out (by rw [mkS_length, HN.out]; exact HL.out) hlo (by rw [mkS_length, HN.out]; exact hhi) b1 b2 b3, HA.out⟩
set_option maxHeartbeats 800000 in
theorem szSgT_any (v : Value) (cs : List (Int × List Int)) (left : Nat) (w : World) (h1 : Nat) (hv : LiesSg w h1 v cs) (hl : left ≤ 1048576) : Calls Try.prog 20 #[v, .int .i64 left] w fun e w' => ∃ r : Int, e = .returned (.int .i64 r) ∧ (r = -1 ∨ (∃ m : Nat, r = m ∧ m ≤ left) ∧ totS cs ≤ left) ∧ Below w.heap.size w w' := by
  have HV := hidH hv
  obtain ⟨a, cap, rfl, hlc, hcm⟩ := hv.len
  unfold maxLen at hcm
  clear hv
  by_cases hbig : left < cs.length
  · have hd : decide ((left : Int) - (cs.length : Int) < 0) = true := decide_eq_true (by omega)
    go_enter Try.func20, Try.ntmps20
    go_wp2_with fail
    go_ret
    exact ⟨_, rfl, .inl rfl, Below.refl _ _⟩
  · go_enter Try.func20, Try.ntmps20
    go_wp2_with fail
    go_loopw [1, 5] (fun m i wr => ∃ k n : Nat, k ≤ cs.length ∧ i = .int .i64 k ∧ m = .int .i64 n ∧ n + lenS (cs.take k) + cs.length ≤ left ∧ Below w.heap.size w wr) (fun _ i _ => cs.length - (intOf i).toNat)
    case atStart => exact ⟨0, left - cs.length, Nat.zero_le _, rfl, by go_num, by simp [lenS]; omega, Below.refl _ _⟩
    case round =>
      obtain ⟨k, n, hk, rfl, rfl, hn, hb⟩ := hrel
      have HB := hidH hb
      clear hb
      by_cases hlt : k < cs.length
      · obtain ⟨b, off, cc1, e, _, _, _, hcl⟩ := HV.out.addr (by omega)
        injection e with e1 e2 e3
        subst e1; subst e3
        obtain ⟨x, hx⟩ : ∃ x, cs[k]? = some x := ⟨cs[k], List.getElem?_eq_getElem hlt⟩
        obtain ⟨c, zs⟩ := x
        obtain ⟨p, q0, q1, q2⟩ := hcl k c zs hx
        have c0 : wr.cell? ⟨b, off + k * 2, none⟩ = some (.int .i64 c) := by rw [HB.out.cell (p := ⟨b, off + k * 2, none⟩) (cell_blk _ _ _ q0)]; exact q0
        have c1 : wr.cell? ⟨b, off + k * 2 + 1, none⟩ = some p := by rw [HB.out.cell (p := ⟨b, off + k * 2 + 1, none⟩) (cell_blk _ _ _ q1)]; exact q1
        obtain ⟨pa, pc, rfl, pl1, pl2, _⟩ := q2
        have HS := hidH (fun W => szSeg_any c pa zs.length pc W n pl1 pl2 (by omega))
        have HX := hidH (show lenS (cs.take (k + 1)) = lenS (cs.take k) + zs.length from lenS_snoc cs k (c, zs) hx)
        clear hcl q0 q1 hx
        unfold maxLen at pl2
        go_wp2_with fail
        refine (HS.out _).mono ?_; rintro e w1 ⟨hr, hb⟩
        have HB1 := hidH (HB.out.trans (hb.mono HB.out.size))
        clear hb c0 c1
        rcases hr with ⟨hzn, rfl⟩ | rfl
        · go_wp2_with fail
          go_roundw
          case rel => exact ⟨k + 1, n - zs.length, by omega, by go_num, rfl, by rw [HX.out]; omega, HB1.out⟩
          case measure => simp [intOf]; omega
        · go_wp2_with fail
          go_ret
          exact ⟨_, rfl, .inl rfl, HB1.out⟩
      · obtain rfl : k = cs.length := by omega
        rw [List.take_length] at hn
        have HT := hidH (show totS cs ≤ left by unfold totS; omega)
        have hnl : n ≤ left := by omega
        clear hn
        go_wp2_with fail
        go_ret
        exact ⟨_, rfl, .inr ⟨⟨n, rfl, hnl⟩, HT.out⟩, HB.out⟩
end Go.Proofs.Ytpkieconbfgbdaa
