/-
  Engines in memory: an engine's slice in a block of its own, loaded and stored whole, and returned. No conditions.
  The laws' own functions on engines: a copy, equality, marks and whether they still stand, and the size. Condition: at most 1048576 columns.
-/
import Derived.Test.YtliakbgigkajnaaDoorSs
import Derived.Laws.Rows
import Derived.Laws.ResultCell
namespace Go.Proofs.YtliakbgigkajnaaDoor
set_option maxRecDepth 4000
set_option linter.unusedVariables false
open Go.RowKit
/-- Block b holds an engine with the slice v. -/
def EngAt (w : World) (b : Nat) (v : Value) : Prop := w.heap[b]? = some (.cells #[v] 27 (0, 0))
theorem EngAt.cell {w : World} {b : Nat} {v : Value} (h : EngAt w b v) : w.cell? ⟨b, 0, none⟩ = some v := by
  unfold EngAt at h
  simp [World.cell?, h]
theorem EngAt.free {w : World} {b : Nat} {v : Value} (h : EngAt w b v) (i : Nat) : w.frozen? ⟨b, i, none⟩ = false := by
  unfold EngAt at h
  simp [World.frozen?, h]
theorem EngAt.lt {w : World} {b : Nat} {v : Value} (h : EngAt w b v) : b < w.heap.size := (Array.getElem?_eq_some_iff.1 h).1
theorem EngAt.fresh (w : World) (v : Value) : EngAt (w.alloc (.cells #[v] 27)) w.heap.size v := heap_alloc_new w _
theorem EngAt.alloc {w : World} {b : Nat} {v : Value} (h : EngAt w b v) (o : Obj) : EngAt (w.alloc o) b v := by
  have hb := h.lt
  unfold EngAt at *
  rw [heap_alloc_old w o hb]; exact h
theorem EngAt.below {w w' : World} {b : Nat} {v : Value} (h : EngAt w b v) (hb : Below w.heap.size w w') : EngAt w' b v := by
  have hl := h.lt
  unfold EngAt at *
  rw [hb.block b hl]; exact h
theorem EngAt.lowB {w w' : World} {b B : Nat} {v : Value} (h : EngAt w b v) (hb : Below B w w') (hl : b < B) : EngAt w' b v := by
  unfold EngAt at *
  rw [hb.block b hl]; exact h
theorem EngAt.onto {w w' : World} {b c : Nat} {v : Value} (h : EngAt w b v) (hb : Onto c w w') (hc : b ≠ c) : EngAt w' b v := by
  have hl := h.lt
  unfold EngAt at *
  rw [hb.block b hl hc]; exact h
theorem EngAt.apart {w w' : World} {b lo hi : Nat} {v : Value} (h : EngAt w b v) (hb : Apart lo hi w w') (hc : b < lo ∨ hi ≤ b) : EngAt w' b v := by
  have hl := h.lt
  unfold EngAt at *
  rw [hb.block b hl hc]; exact h
theorem EngAt.drewN {w : World} {b : Nat} {v : Value} (h : EngAt w b v) (q : Nat) : EngAt (w.drewN q) b v := h
theorem EngAt.setRow {w : World} {b : Nat} {v : Value} (h : EngAt w b v) (u : Value) : EngAt (w.setRow b #[u]) b u := by
  unfold EngAt at *
  simp [World.setRow, Array.getElem?_modify, h]
theorem EngAt.setRowOther {w : World} {b : Nat} {v : Value} (h : EngAt w b v) (g : Nat) (cs : Array Value) (hg : b ≠ g) : EngAt (w.setRow g cs) b v := by
  unfold EngAt at *
  rw [setRow_other w g b cs hg]; exact h
theorem EngAt.setCell {w : World} {b : Nat} {v : Value} (h : EngAt w b v) (p : Addr) (u : Value) (hp : b ≠ p.block) : EngAt (w.setCell p u) b v := by
  unfold EngAt at *
  rw [Below.heap_setCell w p u b hp]; exact h
theorem EngAt.put {w : World} {b : Nat} {v : Value} (h : EngAt w b v) (u : Value) : EngAt (w.setCell ⟨b, 0, none⟩ u) b u := by
  unfold EngAt at *
  simp [World.setCell, Array.getElem?_modify, h]
theorem EngAt.newAt (w : World) (v : Value) (n : Nat) (hn : w.heap.size = n) : EngAt (w.alloc (.cells #[v] 27)) n v := hn ▸ EngAt.fresh w v
theorem eng_size (v : Value) : (Tryd.prog.info? 27).map (·.size) = some (#[v] : Array Value).size := by
  rw [show (#[v] : Array Value).size = 1 from rfl]
  kernel_rfl
theorem slice_one (a : Option Addr) (n cap : Nat) : (#[Value.slice a n cap] : Array Value).all (·.oneCell') = true := by simp [Value.oneCell']
theorem LiesS.some {w : World} {lo hi : Nat} {v : Value} {zs : List ByteArray} (h : LiesS w lo hi v zs) : ∃ a cap, v = .slice a zs.length cap := by
  obtain ⟨a, cap, e, _⟩ := h
  exact ⟨a, cap, e⟩
theorem RowS.some {w : World} {lo hi : Nat} {v : Value} {zs : List ByteArray} (h : RowS w lo hi v zs) : ∃ a cap, v = .slice a zs.length cap := by
  obtain ⟨a, cap, e, _⟩ := h
  exact ⟨a, cap, e⟩
theorem bMore {a w : World} (h : Below a.heap.size a w) (o : Obj) : Below a.heap.size a (w.alloc o) := h.alloc h.size o
theorem bRow {a w : World} (h : Below a.heap.size a w) {b : Nat} (hb : a.heap.size ≤ b) (cs : Array Value) : Below a.heap.size a (w.setRow b cs) :=
  ⟨h.os, h.tape, h.output, by simpa using h.size, fun k hk => by rw [setRow_other w b k cs (by omega)]; exact h.block k hk⟩
theorem belowN' (w : World) (v : Value) : Below w.heap.size w (w.alloc (.cells #[v] 27)) := bMore (Below.refl _ _) _
theorem bThen {a b c : World} (h : Below a.heap.size a b) (k : Below b.heap.size b c) : Below a.heap.size a c := h.trans (k.mono h.size)
theorem onto_setRow (r : Nat) (w : World) (cs : Array Value) : Onto r w (w.setRow r cs) :=
  ⟨rfl, rfl, rfl, by simp, fun k _ hk => setRow_other w r k cs hk⟩
/-- A function that returns an engine. -/
theorem results_eng {fn : Func} {p : Tmp} (h : fn.results = #[.cell p 27]) (tmps : Array Value) (w : World) (g : Nat) (v : Value)
    (hp : tmps.getD p undef = .pointer (some ⟨g, 0, none⟩)) (hg : EngAt w g v) : (results fn tmps).run Tryd.prog w = .ok (.agg #[v]) w :=
  results_cell_row h tmps w g 27 #[v] (0, 0) _ hp hg Tryd.underlying27 rfl (eng_size v)
/-- A function that returns an engine and a truth. -/
theorem results_engB {fn : Func} {p u : Tmp} (h : fn.results = #[.cell p 27, .tmp u]) (tmps : Array Value) (w : World) (g : Nat) (v b : Value)
    (hp : tmps.getD p undef = .pointer (some ⟨g, 0, none⟩)) (hu : tmps.getD u undef = b) (hg : EngAt w g v) : (results fn tmps).run Tryd.prog w = .ok (.tuple #[.agg #[v], b]) w := by
  rw [results_cell_tmp h, hp, hu]
  have hr := run_loadVar_row (P := Tryd.prog) w g 27 27 #[v] (0, 0) _ hg Tryd.underlying27 rfl (eng_size v)
  simp [asAddr, hr]
theorem bDrew' {w w' : World} (h : Below w.drew.heap.size w.drew w') : Below w.heap.size w w' := bThen ((Below.refl w.heap.size w).drew) h
end Go.Proofs.YtliakbgigkajnaaDoor
namespace Go.Proofs.YtliakbgigkajnaaDoor
set_option maxRecDepth 4000
set_option linter.unusedVariables false
open Go.RowKit
/-- What the size of a list of texts leaves. -/
def Sized (zs : List ByteArray) (left : Nat) (w : World) (e : Ending) (w' : World) : Prop :=
  ∃ r : Int, e = .returned (.int .i64 r) ∧ (r = -1 ∨ (∃ m : Nat, r = m ∧ m ≤ left) ∧ zs.length ≤ left ∧ ∀ z ∈ zs, z.size ≤ left) ∧ Below w.heap.size w w'
theorem szTexts_any (v : Value) (zs : List ByteArray) (left : Nat) (w : World) (lo hi : Nat) (hv : LiesS w lo hi v zs) (hz : ∀ z ∈ zs, z.size ≤ 9223372036854775807) (hl : left ≤ 1048576) : Calls Tryd.prog 29 #[v, .int .i64 left] w (Sized zs left w) := by
  obtain ⟨a, cap, rfl, hlc, hcm, hnil, hcell⟩ := hv
  unfold maxLen at hcm
  have HC := hidH hcell
  have HZ := hidH hz
  clear hcell hnil hz
  by_cases hbig : left < zs.length
  · go_enter Tryd.func29, Tryd.ntmps29
    go_wp2
    go_ret
    exact ⟨_, rfl, .inl rfl, Below.refl _ _⟩
  · go_enter Tryd.func29, Tryd.ntmps29
    go_wp2
    go_loopw [1, 5] (fun m i wr => ∃ k n : Nat, k ≤ zs.length ∧ i = .int .i64 k ∧ m = .int .i64 n ∧ n ≤ left ∧ (∀ j z, j < k → zs[j]? = some z → z.size ≤ left) ∧ Below w.heap.size w wr) (fun _ i _ => zs.length - (intOf i).toNat)
    case atStart => exact ⟨0, left - zs.length, Nat.zero_le _, rfl, by go_num, by omega, fun j _ hj => absurd hj (Nat.not_lt_zero _), Below.refl _ _⟩
    case round =>
      obtain ⟨k, n, hk, rfl, rfl, hn, hall, hb⟩ := hrel
      have HA := hidH hall
      have HB := hidH hb
      clear hall hb
      by_cases hlt : k < zs.length
      · obtain ⟨z, hz⟩ := get_lt zs k hlt
        obtain ⟨b, off, rfl, _, _, hc⟩ := HC.out k z hz
        have hcw : wr.cell? ⟨b, off + k, none⟩ = some (.string z) := by rw [HB.out.cell (p := ⟨b, off + k, none⟩) (cell_blk _ _ _ hc)]; exact hc
        have hzs := HZ.out z (List.mem_of_getElem? hz)
        have HZZ := hidH hz
        clear hz hc
        by_cases hfit : z.size ≤ n
        · go_wp2
          go_roundw
          case rel =>
            refine ⟨k + 1, n - z.size, by omega, by go_num, by go_num, by omega, fun j y hj hy => ?_, by first | exact HB.out | exact below_drewN HB.out _⟩
            by_cases e : j = k
            · subst e
              rw [HZZ.out] at hy
              injection hy with hy
              rw [← hy]; omega
            · exact HA.out j y (by omega) hy
          case measure => simp [intOf]; omega
        · go_wp2
          go_ret
          exact ⟨_, rfl, .inl rfl, by first | exact HB.out | exact below_drewN HB.out _⟩
      · obtain rfl : k = zs.length := by omega
        go_wp2
        go_ret
        refine ⟨_, rfl, .inr ⟨⟨n, rfl, hn⟩, by omega, fun z hz => ?_⟩, HB.out⟩
        obtain ⟨j, hj, rfl⟩ := List.getElem_of_mem hz
        exact HA.out j _ hj (List.getElem?_eq_getElem hj)
theorem szEng_any (v : Value) (zs : List ByteArray) (left : Nat) (w : World) (lo hi : Nat) (hv : LiesS w lo hi v zs) (hz : ∀ z ∈ zs, z.size ≤ 9223372036854775807) (hl : left ≤ 1048576) : Calls Tryd.prog 9 #[.agg #[v], .int .i64 left] w (Sized zs left w) := by
  have HS := hidH (fun W (h : LiesS W lo hi v zs) => szTexts_any v zs left W lo hi h hz hl)
  have HL := hidH hv
  obtain ⟨a, cap, rfl⟩ := hv.some
  clear hz hv
  go_enter Tryd.func9, Tryd.ntmps9
  go_wp2_with fail
  have BB := hidH ((bMore (Below.refl w.heap.size w) (.cells #[.slice a zs.length cap] 24)))
  refine (HS.out _ (HL.out.below BB.out)).mono ?_; rintro e w1 ⟨r, rfl, hr, hb⟩
  have HB := hidH (bThen BB.out hb)
  clear hb
  rcases hr with rfl | ⟨⟨m, rfl, hm⟩, h1, h2⟩
  · go_wp2
    go_ret
    exact ⟨_, rfl, .inl rfl, HB.out⟩
  · have H2 := hidH h2
    clear h2
    go_wp2
    go_ret
    exact ⟨_, rfl, .inr ⟨⟨m, rfl, hm⟩, h1, H2.out⟩, HB.out⟩
/-- A call that answers a new engine. -/
def NewEng (zs : List ByteArray) (w : World) (e : Ending) (w' : World) : Prop := ∃ v, e = .returned (.agg #[v]) ∧ RowS w' w.heap.size w'.heap.size v zs ∧ Below w.heap.size w w'
/-- A call that answers a new engine and a truth. -/
def NewEngB (zs : List ByteArray) (b : Bool) (w : World) (e : Ending) (w' : World) : Prop := ∃ v, e = .returned (.tuple #[.agg #[v], .bool b]) ∧ RowS w' w.heap.size w'.heap.size v zs ∧ Below w.heap.size w w'
theorem toEng_any (v : Value) (zs : List ByteArray) (w : World) (hz : LiesS w 0 w.heap.size v zs) (hn : zs.length ≤ 1048576) : Calls Tryd.prog 11 #[.agg #[v]] w (NewEng zs w) := by
  have HS := hidH (fun W (h : LiesS W 0 W.heap.size v zs) => toTexts_any v zs W h hn)
  have HL := hidH hz
  obtain ⟨a, cap, rfl⟩ := hz.some
  clear hz
  have BB := hidH ((bMore ((bMore ((bMore (Below.refl w.heap.size w) (.cells #[.slice a zs.length cap] 24))) (.cells #[.slice none 0 0] 27))) (.cells #[.slice none 0 0] 27)))
  have E1 := hidH ((EngAt.newAt (w.alloc (.cells #[.slice a zs.length cap] 24)) (.slice none 0 0) (w.heap.size + 1) (by simp)).alloc (.cells #[.slice none 0 0] 27))
  have E2 := hidH (EngAt.newAt ((w.alloc (.cells #[.slice a zs.length cap] 24)).alloc (.cells #[.slice none 0 0] 27)) (.slice none 0 0) (w.heap.size + 1 + 1) (by simp))
  go_enter Tryd.func11, Tryd.ntmps11
  go_wp2_with fail
  refine (HS.out _ ((HL.out.below BB.out).mono (Nat.le_refl _) BB.out.size)).mono ?_; rintro e w1 ⟨u, rfl, hr, hb⟩
  have F1 := hidH (E1.out.below hb)
  have F2 := hidH (E2.out.below hb)
  have HR := hidH (hr.mono (show w.heap.size + 3 ≤ _ by simp) (Nat.le_refl _))
  have HB := hidH (bThen BB.out hb)
  obtain ⟨a', cap', rfl⟩ := hr.some
  have c2 := F2.out.cell
  have f2 := F2.out.free 0
  have G2 := hidH (F2.out.put (.slice a' zs.length cap'))
  have G1 := hidH (F1.out.setCell ⟨w.heap.size + 1 + 1, 0, none⟩ (.slice a' zs.length cap') (by show w.heap.size + 1 ≠ w.heap.size + 1 + 1; omega))
  have HBs := hidH (HB.out.setCell (p := ⟨w.heap.size + 1 + 1, 0, none⟩) (by show w.heap.size ≤ w.heap.size + 1 + 1; omega) (.slice a' zs.length cap'))
  have HRs := hidH (HR.out)
  clear hr hb
  have SZ := hidH (eng_size (.slice a' zs.length cap'))
  have SO := hidH (slice_one a' zs.length cap')
  have HX := hidH (show w.heap.size + 1 + 1 < w1.heap.size from F2.out.lt)
  go_wp2_with (first | (refine wpList_load_row rfl 27 _ rfl (w.heap.size + 1 + 1) rfl 27 _ (0, 0) _ G2.out Tryd.underlying27 rfl SZ.out ?_) | (refine wpList_store_row rfl 27 _ _ rfl (w.heap.size + 1) #[.slice a' zs.length cap'] rfl rfl 27 _ G1.out SZ.out rfl SO.out ?_))
  refine bodyPost_ret (results_eng Tryd.results11 _ _ (w.heap.size + 1) _ rfl (G1.out.setRow _)) rfl ?_
  exact ⟨_, rfl, ((HRs.out.apart (Apart.of_onto (lo := w.heap.size + 1) (hi := w.heap.size + 3) (Onto.setCell (w.heap.size + 1 + 1) 0 w1 _) (by omega) (by omega)) (.inr (Nat.le_refl _))).apart (Apart.of_onto (lo := w.heap.size + 1) (hi := w.heap.size + 3) (onto_setRow (w.heap.size + 1) _ _) (by omega) (by omega)) (.inr (Nat.le_refl _))).mono (by omega) (by simp), bRow HBs.out (by omega) _⟩
theorem eqEng_yes (v u : Value) (zs : List ByteArray) (w : World) (l1 h1 l2 h2 : Nat) (hv : LiesS w l1 h1 v zs) (hu : LiesS w l2 h2 u zs) : Calls Tryd.prog 13 #[.agg #[v], .agg #[u]] w (Gives (.bool true) w) := by
  have HS := hidH (fun W (h1' : LiesS W l1 h1 v zs) (h2' : LiesS W l2 h2 u zs) => eqTexts_yes v u zs W l1 h1 l2 h2 h1' h2')
  have HL1 := hidH hv
  have HL2 := hidH hu
  obtain ⟨a, cap, rfl⟩ := hv.some
  obtain ⟨a2, cap2, rfl⟩ := hu.some
  clear hv hu
  have BB := hidH ((bMore ((bMore (Below.refl w.heap.size w) (.cells #[.slice a zs.length cap] 27))) (.cells #[.slice a2 zs.length cap2] 27)))
  go_enter Tryd.func13, Tryd.ntmps13
  go_wp2_with fail
  refine (HS.out _ (HL1.out.below BB.out) (HL2.out.below BB.out)).mono ?_; rintro e w1 ⟨rfl, hb⟩
  have HB := hidH (bThen BB.out hb)
  clear hb
  go_wp2
  go_ret
  exact ⟨rfl, HB.out⟩
theorem markEng_any (v : Value) (zs : List ByteArray) (k0 : Nat) (w : World) (lo hi : Nat) (hv : RowS w lo hi v zs) (hk1 : 1 ≤ k0) (hk0 : k0 ≤ 4194304) (hn : zs.length ≤ 1048576) : Calls Tryd.prog 19 #[.agg #[v], .int .i64 k0] w (MarksS v lo hi zs.length k0 w) := by
  have HS := hidH (fun W (h : RowS W lo hi v zs) => markTexts_any v zs k0 W lo hi h hk1 hk0 hn)
  have HL := hidH hv
  obtain ⟨a, cap, rfl⟩ := hv.some
  clear hv
  have BB := hidH ((bMore (Below.refl w.heap.size w) (.cells #[.slice a zs.length cap] 27)))
  go_enter Tryd.func19, Tryd.ntmps19
  go_wp2_with fail
  refine (HS.out _ (HL.out.below BB.out)).mono ?_; rintro e w1 ⟨rfl, hr, ha⟩
  have HR := hidH hr
  have HA := hidH ((Apart.of_below (lo := lo) (hi := hi) BB.out).trans ha)
  clear hr ha
  go_wp2
  go_ret
  exact ⟨rfl, HR.out, HA.out⟩
theorem heldEng_any (v : Value) (k0 : Nat) (n : Nat) (w : World) (lo hi : Nat) (hv : LiesS w lo hi v (upT k0 n)) (hk1 : 1 ≤ k0) (hk0 : k0 ≤ 4194304) (hn : n ≤ 1048576) : Calls Tryd.prog 24 #[.agg #[v], .int .i64 k0] w (Gives (.int .i64 ((k0 + n : Nat) : Int)) w) := by
  have HS := hidH (fun W (h : LiesS W lo hi v (upT k0 n)) => heldTexts_any v k0 n W lo hi h hk1 hk0 hn)
  have HL := hidH hv
  obtain ⟨a, cap, rfl⟩ := hv.some
  clear hv
  have BB := hidH ((bMore (Below.refl w.heap.size w) (.cells #[.slice a (upT k0 n).length cap] 27)))
  go_enter Tryd.func24, Tryd.ntmps24
  go_wp2_with fail
  refine (HS.out _ (HL.out.below BB.out)).mono ?_; rintro e w1 ⟨rfl, hb⟩
  have HB := hidH (bThen BB.out hb)
  clear hb
  go_wp2
  go_ret
  exact ⟨rfl, HB.out⟩
end Go.Proofs.YtliakbgigkajnaaDoor
