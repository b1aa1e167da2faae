/-
  Rounding: a unit with its way, and single entries. No conditions.
-/
import Derived.Test.YtcinhmfjnjecdaaRndA
import Derived.Test.YtcinhmfjnjecdaaBox
namespace Go.Proofs.Ytcinhmfjnjecdaa
set_option maxRecDepth 4000
open Go.RowKit
/-- Block b holds a rounding: a unit and a function. -/
def RndAt (w : World) (b : Nat) (u : Int) (f : Value) : Prop := w.heap[b]? = some (.cells #[.int .i64 u, f] 67 (0, 0))
theorem RndAt.cell0 {w : World} {b : Nat} {u : Int} {f : Value} (h : RndAt w b u f) : w.cell? ⟨b, 0, none⟩ = some (.int .i64 u) := by
  unfold RndAt at h
  simp [World.cell?, h]
theorem RndAt.cell1 {w : World} {b : Nat} {u : Int} {f : Value} (h : RndAt w b u f) : w.cell? ⟨b, 1, none⟩ = some f := by
  unfold RndAt at h
  simp [World.cell?, h]
theorem RndAt.lt {w : World} {b : Nat} {u : Int} {f : Value} (h : RndAt w b u f) : b < w.heap.size := (Array.getElem?_eq_some_iff.1 h).1
theorem RndAt.fresh (w : World) (u : Int) (f : Value) : RndAt (w.alloc (.cells #[.int .i64 u, f] 67)) w.heap.size u f := heap_alloc_new w _
theorem RndAt.below {w w' : World} {b : Nat} {u : Int} {f : Value} (h : RndAt w b u f) (hb : Below w.heap.size w w') : RndAt w' b u f := by
  have hl := h.lt
  unfold RndAt at *
  rw [hb.block b hl]; exact h
theorem RndAt.setRow {w : World} {b : Nat} {u : Int} {f : Value} (h : RndAt w b u f) (d : Int) (g : Value) : RndAt (w.setRow b #[.int .i64 d, g]) b d g := by
  unfold RndAt at *
  simp [World.setRow, Array.getElem?_modify, h]
theorem rnd_size (u : Int) (f : Value) : (Try.prog.info? 67).map (·.size) = some (#[.int .i64 u, f] : Array Value).size := by
  rw [show (#[.int .i64 u, f] : Array Value).size = 2 from rfl]
  kernel_rfl
/-- A function that returns a rounding and a truth. -/
theorem results_rndB {fn : Func} {p u : Tmp} (h : fn.results = #[.cell p 67, .tmp u]) (tmps : Array Value) (w : World) (g : Nat) (c : Int) (v b : Value)
    (hp : tmps.getD p undef = .pointer (some ⟨g, 0, none⟩)) (hu : tmps.getD u undef = b) (hg : RndAt w g c v) : (results fn tmps).run Try.prog w = .ok (.tuple #[.agg #[.int .i64 c, v], b]) w := by
  rw [results_cell_tmp h, hp, hu]
  have hr := run_loadVar_row (P := Try.prog) w g 67 67 #[.int .i64 c, v] (0, 0) _ hg Try.underlying67 rfl (rnd_size c v)
  simp [asAddr, hr]
/-- The function of a way of rounding. -/
def rFun (u way : Int) : Value := .func (.func (if way = 0 then 71 else if way = 1 then 72 else 73)) #[.int .i64 u] #[]
theorem store_fun (w : World) (u : Int) (f : Value) (hf : f.oneCell' = true) : (store ⟨w.heap.size, 1, none⟩ f).run Try.prog (w.alloc (.cells #[.int .i64 u, .nilFunc] 67)) = .ok () (w.alloc (.cells #[.int .i64 u, f] 67)) := by
  rw [run_store _ _ _ _ _ hf]
  have h := RndAt.fresh w u .nilFunc
  have hf : (w.alloc (.cells #[.int .i64 u, .nilFunc] 67)).frozen? ⟨w.heap.size, 1, none⟩ = false := by
    unfold RndAt at h
    unfold World.frozen?
    rw [h]; rfl
  rw [h.cell1, hf, World.setCell_alloc_new]
  rfl
theorem roundingOf_yes (d : Nat) (way : Int) (hd : d ≤ 6) (h0 : 0 ≤ way) (h2 : way ≤ 2) (w : World) : Calls Try.prog 49 #[.int .i64 d, .int .i64 way] w (Gives (.tuple #[.agg #[.int .i64 (tenP d), rFun (tenP d) way], .bool true]) w) := by
  have hst := fun (u : Int) (f : Nat) => store_fun w u (.func (.func f) #[.int .i64 u] #[]) rfl
  have HB := hidH (show decide ((0 : Int) ≤ (d : Int) ∧ (d : Int) ≤ 6) = true from decide_eq_true (by omega))
  have hp := tenP_pos d
  have hq := tenP_12 d (by omega)
  have HP := hidH (pow_any d (by omega))
  have F1 := hidH (fun u f => RndAt.fresh w u f)
  have BB := hidH (fun cs => bMore (Below.refl w.heap.size w) (.cells cs 67))
  generalize tenP d = u at *
  rcases (show way = 0 ∨ way = 1 ∨ way = 2 by omega) with rfl | rfl | rfl
  · go_enter Try.func49, Try.ntmps49
    go_wp2_with fail
    refine (between_any d 0 6 _ HB.out _).mono ?_; rintro e w1 ⟨rfl, rfl⟩
    go_wp2_with fail
    refine (HP.out _).mono ?_; rintro e w1 ⟨rfl, rfl⟩
    go_wp2_with fail
    refine bodyPost_ret (results_rndB Try.results49 _ _ w.heap.size _ _ _ rfl rfl (F1.out _ _)) rfl ?_
    exact ⟨rfl, BB.out _⟩
  · go_enter Try.func49, Try.ntmps49
    go_wp2_with fail
    refine (between_any d 0 6 _ HB.out _).mono ?_; rintro e w1 ⟨rfl, rfl⟩
    go_wp2_with fail
    refine (HP.out _).mono ?_; rintro e w1 ⟨rfl, rfl⟩
    go_wp2_with fail
    refine bodyPost_ret (results_rndB Try.results49 _ _ w.heap.size _ _ _ rfl rfl (F1.out _ _)) rfl ?_
    exact ⟨rfl, BB.out _⟩
  · go_enter Try.func49, Try.ntmps49
    go_wp2_with fail
    refine (between_any d 0 6 _ HB.out _).mono ?_; rintro e w1 ⟨rfl, rfl⟩
    go_wp2_with fail
    refine (HP.out _).mono ?_; rintro e w1 ⟨rfl, rfl⟩
    go_wp2_with fail
    refine bodyPost_ret (results_rndB Try.results49 _ _ w.heap.size _ _ _ rfl rfl (F1.out _ _)) rfl ?_
    exact ⟨rfl, BB.out _⟩
theorem roundingOf_no (d way : Int) (h : wayOk d way = false) (w : World) : Calls Try.prog 49 #[.int .i64 d, .int .i64 way] w (Gives (.tuple #[.agg #[.int .i64 0, .nilFunc], .bool false]) w) := by
  have hst := store_fun w 0 .nilFunc rfl
  have F1 := hidH (RndAt.fresh w 0 .nilFunc)
  have SZ := hidH (rnd_size 0 .nilFunc)
  have BB := hidH (bMore (Below.refl w.heap.size w) (.cells #[.int .i64 0, .nilFunc] 67))
  unfold wayOk at h
  cases hd : decide ((0 : Int) ≤ d ∧ d ≤ 6)
  · have HD := hidH hd
    clear hd h
    go_enter Try.func49, Try.ntmps49
    go_wp2_with fail
    refine (between_any d 0 6 _ HD.out _).mono ?_; rintro e w1 ⟨rfl, rfl⟩
    go_wp2_with fail
    refine bodyPost_ret (results_rndB Try.results49 _ _ w.heap.size 0 .nilFunc _ rfl rfl F1.out) rfl ?_
    exact ⟨rfl, BB.out⟩
  · rw [hd, Bool.true_and] at h
    have ⟨d0, d6⟩ := of_decide_eq_true hd
    obtain ⟨k, rfl⟩ := Int.eq_ofNat_of_zero_le d0
    have HD := hidH hd
    have HP := hidH (pow_any k (by omega))
    have hw := of_decide_eq_false h
    have b0 : (way == 0) = false := beq_eq_false_iff_ne.2 (by omega)
    have b1 : (way == 1) = false := beq_eq_false_iff_ne.2 (by omega)
    have b2 : (way == 2) = false := beq_eq_false_iff_ne.2 (by omega)
    clear hd h d0 d6 hw
    generalize tenP k = u at *
    go_enter Try.func49, Try.ntmps49
    go_wp2_with fail
    refine (between_any k 0 6 _ HD.out _).mono ?_; rintro e w1 ⟨rfl, rfl⟩
    go_wp2_with fail
    refine (HP.out _).mono ?_; rintro e w1 ⟨rfl, rfl⟩
    go_wp2_with fail
    refine bodyPost_ret (results_rndB Try.results49 _ _ w.heap.size 0 .nilFunc _ rfl rfl F1.out) rfl ?_
    exact ⟨rfl, BB.out⟩
theorem wayOk_parts {d way : Int} (h : wayOk d way = true) : ∃ k : Nat, d = (k : Int) ∧ k ≤ 6 ∧ 0 ≤ way ∧ way ≤ 2 ∧ IsUnit (tenP k) := by
  unfold wayOk at h
  rw [Bool.and_eq_true] at h
  have ⟨a, b⟩ := of_decide_eq_true h.1
  have ⟨p, q⟩ := of_decide_eq_true h.2
  have hu := unit_of d a b
  exact ⟨d.toNat, by omega, by omega, p, q, hu⟩
/-- What RoundEntry answers. -/
def rndN (n d way : Int) : Int := if inB 1000000000 n && wayOk d way then rndI n (tenP d.toNat) way else 0
def rndB (n d way : Int) : Bool := inB 1000000000 n && wayOk d way
end Go.Proofs.Ytcinhmfjnjecdaa
