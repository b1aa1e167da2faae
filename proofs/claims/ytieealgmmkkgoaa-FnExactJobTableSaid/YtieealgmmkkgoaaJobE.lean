/-
  The laws' own functions on jobs. Condition: at most 1048576 differences.
-/
import Derived.Test.YtieealgmmkkgoaaJobD
namespace Go.Proofs.Ytieealgmmkkgoaa
set_option maxRecDepth 4000
open Go.RowKit
theorem Row.someJ {w : World} {lo hi : Nat} {v : Value} {zs : List Int} (h : Row w lo hi v zs) : ∃ a cap, v = .slice a zs.length cap := by
  obtain ⟨a, cap, e, _⟩ := h.lies
  exact ⟨a, cap, e⟩
theorem Lies.someJ {w : World} {lo hi : Nat} {v : Value} {zs : List Int} (h : Lies w lo hi v zs) : ∃ a cap, v = .slice a zs.length cap := by
  obtain ⟨a, cap, e, _⟩ := h
  exact ⟨a, cap, e⟩
theorem szIntJ_any (a : Option Addr) (n cap : Nat) (w : World) (l : Nat) (hlc : n ≤ cap) (hcm : cap ≤ maxLen) (h2 : l ≤ 1048576) : Calls Try.prog 13 #[.slice a n cap, .int .i64 l] w fun e w' => (n ≤ l ∧ e = .returned (.int .i64 ((l - n : Nat) : Int)) ∨ e = .returned (.int .i64 (-1))) ∧ Below w.heap.size w w' := by
  unfold maxLen at hcm
  by_cases h : n ≤ l
  · have hd : decide ((l : Int) - (n : Int) < 0) = false := decide_eq_false (by omega)
    have hz : ((l - n : Nat) : Int) = (l : Int) - (n : Int) := by omega
    go_enter Try.func13, Try.ntmps13
    go_wp2_with fail
    go_ret
    exact ⟨.inl ⟨h, by rw [hz]; rfl⟩, Below.refl _ _⟩
  · have hd : decide ((l : Int) - (n : Int) < 0) = true := decide_eq_true (by omega)
    go_enter Try.func13, Try.ntmps13
    go_wp2_with fail
    go_ret
    exact ⟨.inr rfl, Below.refl _ _⟩
/-- Block b holds a job. -/
def JobAt (w : World) (b t : Nat) (cs : Array Value) : Prop := w.heap[b]? = some (.cells cs t (0, 0))
theorem JobAt.set {w : World} {b t : Nat} {cs : Array Value} (h : JobAt w b t cs) (i : Nat) (v : Value) : JobAt (w.setCell ⟨b, i, none⟩ v) b t (cs.setIfInBounds i v) := by
  unfold JobAt at *
  simp [World.setCell, Array.getElem?_modify, h]
theorem JobAt.free {w : World} {b t : Nat} {cs : Array Value} (h : JobAt w b t cs) (i : Nat) : w.frozen? ⟨b, i, none⟩ = false := by
  unfold JobAt at h
  unfold World.frozen?
  rw [h]; rfl
theorem JobAt.cell {w : World} {b t : Nat} {cs : Array Value} (h : JobAt w b t cs) (i : Nat) (v : Value) (hv : cs[i]? = some v) : w.cell? ⟨b, i, none⟩ = some v := job_cell h i v hv
theorem JobAt.other {w : World} {b t : Nat} {cs : Array Value} (h : JobAt w b t cs) (g i : Nat) (v : Value) (hg : b ≠ g) : JobAt (w.setCell ⟨g, i, none⟩ v) b t cs := by
  unfold JobAt at *
  rw [Below.heap_setCell _ _ _ b hg]; exact h
theorem JobAt.below {w w' : World} {b t : Nat} {cs : Array Value} (h : JobAt w b t cs) (hb : Below w.heap.size w w') : JobAt w' b t cs := heap_keep h hb
theorem szJob_any (a : Option Addr) (n cap : Nat) (F C Wd D Wy R A Wi : Int) (w : World) (l : Nat) (hlc : n ≤ cap) (hcm : cap ≤ maxLen) (h2 : l ≤ 1048576) : Calls Try.prog 4 #[jobV (.slice a n cap) F C Wd D Wy R A Wi, .int .i64 l] w fun e w' => (n ≤ l ∧ e = .returned (.int .i64 ((l - n : Nat) : Int)) ∨ e = .returned (.int .i64 (-1))) ∧ Below w.heap.size w w' := by
  unfold jobV jobC
  have HS := hidH (fun W => szIntJ_any a n cap W l hlc hcm h2)
  have BB := hidH (bMore (Below.refl w.heap.size w) (.cells #[.slice a n cap, .int .i64 F, .int .i64 C, .int .i64 Wd, .int .i64 D, .int .i64 Wy, .int .i64 R, .int .i64 A, .int .i64 Wi] 26))
  go_enter Try.func4, Try.ntmps4
  go_wp2_with fail
  refine (HS.out _).mono ?_; rintro e w1 ⟨h | h, hb⟩
  · obtain ⟨hl, rfl⟩ := h
    have HB := hidH (bThen BB.out hb)
    clear hb
    go_wp2_with fail
    go_ret
    exact ⟨Or.inl ⟨hl, rfl⟩, HB.out⟩
  · subst h
    have HB := hidH (bThen BB.out hb)
    clear hb
    go_wp2_with fail
    go_ret
    exact ⟨Or.inr rfl, HB.out⟩
theorem eqLay_yes (R A Wi : Int) (w : World) : Calls Try.prog 21 #[.agg #[.int .i64 R, .int .i64 A, .int .i64 Wi], .agg #[.int .i64 R, .int .i64 A, .int .i64 Wi]] w (Gives (.bool true) w) := by
  go_enter Try.func21, Try.ntmps21
  go_wp2_with fail
  go_ret
  exact ⟨rfl, bMore (bMore (Below.refl _ _) _) _⟩
set_option maxHeartbeats 800000 in
theorem eqJob_yes (v u : Value) (zs : List Int) (F C Wd D Wy R A Wi : Int) (w : World) (l1 h1 l2 h2 : Nat) (hv : Lies w l1 h1 v zs) (hu : Lies w l2 h2 u zs) : Calls Try.prog 9 #[jobV v F C Wd D Wy R A Wi, jobV u F C Wd D Wy R A Wi] w (Gives (.bool true) w) := by
  obtain ⟨av, cv, rfl⟩ := hv.someJ
  obtain ⟨au, cu, rfl⟩ := hu.someJ
  have BB := hidH (bMore (bMore (Below.refl w.heap.size w) (.cells (jobC (.slice av zs.length cv) F C Wd D Wy R A Wi) 32)) (.cells (jobC (.slice au zs.length cu) F C Wd D Wy R A Wi) 32))
  have HQ := hidH (eqInts_yes _ _ zs _ _ _ _ _ (hv.below BB.out) (hu.below BB.out))
  have J0 := hidH (show JobAt ((w.alloc (.cells (jobC (.slice av zs.length cv) F C Wd D Wy R A Wi) 32)).alloc (.cells (jobC (.slice au zs.length cu) F C Wd D Wy R A Wi) 32)) w.heap.size 32 (jobC (.slice av zs.length cv) F C Wd D Wy R A Wi) from heap_more (heap_alloc_new w _) _)
  have J1 := hidH (show JobAt ((w.alloc (.cells (jobC (.slice av zs.length cv) F C Wd D Wy R A Wi) 32)).alloc (.cells (jobC (.slice au zs.length cu) F C Wd D Wy R A Wi) 32)) (w.heap.size + 1) 32 (jobC (.slice au zs.length cu) F C Wd D Wy R A Wi) by
    have h := heap_alloc_new (w.alloc (.cells (jobC (.slice av zs.length cv) F C Wd D Wy R A Wi) 32)) (.cells (jobC (.slice au zs.length cu) F C Wd D Wy R A Wi) 32)
    simpa [JobAt] using h)
  clear hv hu
  unfold jobV
  unfold jobC at *
  go_enter Try.func9, Try.ntmps9
  go_wp2_with fail
  refine HQ.out.mono ?_; rintro e w1 ⟨rfl, hb⟩
  have B1 := hidH (bThen BB.out hb)
  have K0 := hidH (J0.out.below hb)
  have K1 := hidH (J1.out.below hb)
  clear hb
  have p1 := K0.out.cell 1 _ rfl
  have q1 := K1.out.cell 1 _ rfl
  have p2 := K0.out.cell 2 _ rfl
  have q2 := K1.out.cell 2 _ rfl
  have p3 := K0.out.cell 3 _ rfl
  have q3 := K1.out.cell 3 _ rfl
  have p4 := K0.out.cell 4 _ rfl
  have q4 := K1.out.cell 4 _ rfl
  have p5 := K0.out.cell 5 _ rfl
  have q5 := K1.out.cell 5 _ rfl
  have p6 := K0.out.cell 6 _ rfl
  have q6 := K1.out.cell 6 _ rfl
  have p7 := K0.out.cell 7 _ rfl
  have q7 := K1.out.cell 7 _ rfl
  have p8 := K0.out.cell 8 _ rfl
  have q8 := K1.out.cell 8 _ rfl
  go_wp2_with fail
  refine (eqLay_yes R A Wi _).mono ?_; rintro e w2 ⟨rfl, hb⟩
  have B2 := hidH (bThen B1.out hb)
  clear hb
  go_wp2_with fail
  go_ret
  exact ⟨rfl, B2.out⟩
end Go.Proofs.Ytieealgmmkkgoaa
