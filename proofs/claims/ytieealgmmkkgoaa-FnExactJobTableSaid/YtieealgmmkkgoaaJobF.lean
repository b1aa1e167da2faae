/-
  The laws' conversion of jobs. Condition: at most 1048576 differences.
-/
import Derived.Test.YtieealgmmkkgoaaJobE
namespace Go.Proofs.Ytieealgmmkkgoaa
set_option maxRecDepth 4000
open Go.RowKit
theorem JobAt.setRow {w : World} {b t : Nat} {cs : Array Value} (h : JobAt w b t cs) (ds : Array Value) : JobAt (w.setRow b ds) b t ds := by
  unfold JobAt at *
  simp [World.setRow, Array.getElem?_modify, h]
theorem put_job {a w : World} {B b c lo hi t : Nat} {cs ds : Array Value} {v : Value} {zs : List Int} (hK : JobAt w b t cs ∧ JobAt w c t ds ∧ Row w lo hi v zs ∧ Below B a w) (hb : B ≤ b) (hl : b < lo) (hc : c ≠ b) (i : Nat) (x : Value) (es : Array Value) (he : cs.setIfInBounds i x = es) :
    JobAt (w.setCell ⟨b, i, none⟩ x) b t es ∧ JobAt (w.setCell ⟨b, i, none⟩ x) c t ds ∧ Row (w.setCell ⟨b, i, none⟩ x) lo hi v zs ∧ Below B a (w.setCell ⟨b, i, none⟩ x) :=
  ⟨by rw [← he]; exact hK.1.set i x, hK.2.1.other b i x hc, hK.2.2.1.apart (Apart.of_onto (lo := b) (hi := b + 1) (Onto.setCell b i w x) (Nat.le_refl _) (Nat.lt_succ_self _)) (.inr hl), hK.2.2.2.setCell (p := ⟨b, i, none⟩) hb x⟩
theorem below_job {a w w' : World} {b c lo t : Nat} {cs ds : Array Value} {v : Value} {zs : List Int} (hK : JobAt w b t cs ∧ JobAt w c t ds ∧ Row w lo w.heap.size v zs ∧ Below a.heap.size a w) (hb : Below w.heap.size w w') : JobAt w' b t cs ∧ JobAt w' c t ds ∧ Row w' lo w'.heap.size v zs ∧ Below a.heap.size a w' :=
  ⟨hK.1.below hb, hK.2.1.below hb, (hK.2.2.1.below hb).mono (Nat.le_refl _) hb.size, bThen hK.2.2.2 hb⟩
set_option maxHeartbeats 1600000 in
theorem toJob_any (v : Value) (zs : List Int) (F C Wd D Wy R A Wi : Int) (w : World) (hz : Lies w 0 w.heap.size v zs) (hn : zs.length ≤ 1048576) : Calls Try.prog 6 #[jobV v F C Wd D Wy R A Wi] w fun e w' => ∃ a cap, e = .returned (jobV (.slice a zs.length cap) F C Wd D Wy R A Wi) ∧ Row w' w.heap.size w'.heap.size (.slice a zs.length cap) zs ∧ Below w.heap.size w w' := by
  have HS := hidH (fun W (h : Lies W 0 W.heap.size v zs) => toInts_any v zs W h hn)
  have HT := hidH (fun W => toLay_any R A Wi W)
  have HL := hidH hz
  obtain ⟨av, cv, rfl⟩ := hz.someJ
  clear hz
  have BB := hidH (bMore (bMore (bMore (Below.refl w.heap.size w) (.cells (jobC (.slice av zs.length cv) F C Wd D Wy R A Wi) 26)) (.cells #[.slice none 0 0, .int .i64 0, .int .i64 0, .int .i64 0, .int .i64 0, .int .i64 0, .int .i64 0, .int .i64 0, .int .i64 0] 32)) (.cells #[.slice none 0 0, .int .i64 0, .int .i64 0, .int .i64 0, .int .i64 0, .int .i64 0, .int .i64 0, .int .i64 0, .int .i64 0] 32))
  have J0 := hidH (show JobAt (((w.alloc (.cells (jobC (.slice av zs.length cv) F C Wd D Wy R A Wi) 26)).alloc (.cells #[.slice none 0 0, .int .i64 0, .int .i64 0, .int .i64 0, .int .i64 0, .int .i64 0, .int .i64 0, .int .i64 0, .int .i64 0] 32)).alloc (.cells #[.slice none 0 0, .int .i64 0, .int .i64 0, .int .i64 0, .int .i64 0, .int .i64 0, .int .i64 0, .int .i64 0, .int .i64 0] 32)) w.heap.size 26 (jobC (.slice av zs.length cv) F C Wd D Wy R A Wi) from heap_more (heap_more (heap_alloc_new w _) _) _)
  have J1 := hidH (show JobAt (((w.alloc (.cells (jobC (.slice av zs.length cv) F C Wd D Wy R A Wi) 26)).alloc (.cells #[.slice none 0 0, .int .i64 0, .int .i64 0, .int .i64 0, .int .i64 0, .int .i64 0, .int .i64 0, .int .i64 0, .int .i64 0] 32)).alloc (.cells #[.slice none 0 0, .int .i64 0, .int .i64 0, .int .i64 0, .int .i64 0, .int .i64 0, .int .i64 0, .int .i64 0, .int .i64 0] 32)) (w.heap.size + 1) 32 #[.slice none 0 0, .int .i64 0, .int .i64 0, .int .i64 0, .int .i64 0, .int .i64 0, .int .i64 0, .int .i64 0, .int .i64 0] by
    have h := heap_more (heap_alloc_new (w.alloc (.cells (jobC (.slice av zs.length cv) F C Wd D Wy R A Wi) 26)) (.cells #[.slice none 0 0, .int .i64 0, .int .i64 0, .int .i64 0, .int .i64 0, .int .i64 0, .int .i64 0, .int .i64 0, .int .i64 0] 32)) (.cells #[.slice none 0 0, .int .i64 0, .int .i64 0, .int .i64 0, .int .i64 0, .int .i64 0, .int .i64 0, .int .i64 0, .int .i64 0] 32)
    simpa [JobAt] using h)
  have J2 := hidH (show JobAt (((w.alloc (.cells (jobC (.slice av zs.length cv) F C Wd D Wy R A Wi) 26)).alloc (.cells #[.slice none 0 0, .int .i64 0, .int .i64 0, .int .i64 0, .int .i64 0, .int .i64 0, .int .i64 0, .int .i64 0, .int .i64 0] 32)).alloc (.cells #[.slice none 0 0, .int .i64 0, .int .i64 0, .int .i64 0, .int .i64 0, .int .i64 0, .int .i64 0, .int .i64 0, .int .i64 0] 32)) (w.heap.size + 2) 32 #[.slice none 0 0, .int .i64 0, .int .i64 0, .int .i64 0, .int .i64 0, .int .i64 0, .int .i64 0, .int .i64 0, .int .i64 0] by
    have h := heap_alloc_new ((w.alloc (.cells (jobC (.slice av zs.length cv) F C Wd D Wy R A Wi) 26)).alloc (.cells #[.slice none 0 0, .int .i64 0, .int .i64 0, .int .i64 0, .int .i64 0, .int .i64 0, .int .i64 0, .int .i64 0, .int .i64 0] 32)) (.cells #[.slice none 0 0, .int .i64 0, .int .i64 0, .int .i64 0, .int .i64 0, .int .i64 0, .int .i64 0, .int .i64 0, .int .i64 0] 32)
    simpa [JobAt] using h)
  unfold jobV
  unfold jobC layV at *
  go_enter Try.func6, Try.ntmps6
  go_wp2_with fail
  refine (HS.out _ ((HL.out.below BB.out).mono (Nat.le_refl _) BB.out.size)).mono ?_; rintro e w1 ⟨u, rfl, hr, hb⟩
  obtain ⟨ua, uc, rfl⟩ := hr.someJ
  have HR := hidH (hr.mono (show w.heap.size + 3 ≤ _ by simp) (Nat.le_refl _))
  have B1 := hidH (bThen BB.out hb)
  have K0 := hidH (J0.out.below hb)
  have K1 := hidH (J1.out.below hb)
  have K2 := hidH (J2.out.below hb)
  clear hb hr J0 J1 J2 BB
  have p1 := K0.out.cell 1 _ rfl
  have p2 := K0.out.cell 2 _ rfl
  have p3 := K0.out.cell 3 _ rfl
  have p4 := K0.out.cell 4 _ rfl
  have p5 := K0.out.cell 5 _ rfl
  have p6 := K0.out.cell 6 _ rfl
  have p7 := K0.out.cell 7 _ rfl
  have p8 := K0.out.cell 8 _ rfl
  have q0 := K2.out.cell 0 _ rfl
  have f0 := K2.out.free 0
  have q1 := K2.out.cell 1 _ rfl
  have f1 := K2.out.free 1
  have q2 := K2.out.cell 2 _ rfl
  have f2 := K2.out.free 2
  have q3 := K2.out.cell 3 _ rfl
  have f3 := K2.out.free 3
  have q4 := K2.out.cell 4 _ rfl
  have f4 := K2.out.free 4
  have q5 := K2.out.cell 5 _ rfl
  have f5 := K2.out.free 5
  have q6 := K2.out.cell 6 _ rfl
  have f6 := K2.out.free 6
  have q7 := K2.out.cell 7 _ rfl
  have f7 := K2.out.free 7
  have q8 := K2.out.cell 8 _ rfl
  have f8 := K2.out.free 8
  have P0 := put_job (B := w.heap.size) ⟨K2.out, K1.out, HR.out, B1.out⟩ (by omega) (by omega) (by omega) 0 (.slice ua zs.length uc) (#[.slice ua zs.length uc, .int .i64 0, .int .i64 0, .int .i64 0, .int .i64 0, .int .i64 0, .int .i64 0, .int .i64 0, .int .i64 0] : Array Value) rfl
  have P1 := put_job P0 (by omega) (by omega) (by omega) 1 (.int .i64 F) (#[.slice ua zs.length uc, .int .i64 F, .int .i64 0, .int .i64 0, .int .i64 0, .int .i64 0, .int .i64 0, .int .i64 0, .int .i64 0] : Array Value) rfl
  have P2 := put_job P1 (by omega) (by omega) (by omega) 2 (.int .i64 C) (#[.slice ua zs.length uc, .int .i64 F, .int .i64 C, .int .i64 0, .int .i64 0, .int .i64 0, .int .i64 0, .int .i64 0, .int .i64 0] : Array Value) rfl
  have P3 := put_job P2 (by omega) (by omega) (by omega) 3 (.int .i64 Wd) (#[.slice ua zs.length uc, .int .i64 F, .int .i64 C, .int .i64 Wd, .int .i64 0, .int .i64 0, .int .i64 0, .int .i64 0, .int .i64 0] : Array Value) rfl
  have P4 := put_job P3 (by omega) (by omega) (by omega) 4 (.int .i64 D) (#[.slice ua zs.length uc, .int .i64 F, .int .i64 C, .int .i64 Wd, .int .i64 D, .int .i64 0, .int .i64 0, .int .i64 0, .int .i64 0] : Array Value) rfl
  have P5 := hidH (put_job P4 (by omega) (by omega) (by omega) 5 (.int .i64 Wy) (#[.slice ua zs.length uc, .int .i64 F, .int .i64 C, .int .i64 Wd, .int .i64 D, .int .i64 Wy, .int .i64 0, .int .i64 0, .int .i64 0] : Array Value) rfl)
  clear P0 P1 P2 P3 P4
  go_wp2_with fail
  rw [show w.heap.size + 1 + 1 = w.heap.size + 2 from rfl]
  have hsz : w1.heap.size = ((((((w1.setCell ⟨w.heap.size + 2, 0, none⟩ (.slice ua zs.length uc)).setCell ⟨w.heap.size + 2, 1, none⟩ (.int .i64 F)).setCell ⟨w.heap.size + 2, 2, none⟩ (.int .i64 C)).setCell ⟨w.heap.size + 2, 3, none⟩ (.int .i64 Wd)).setCell ⟨w.heap.size + 2, 4, none⟩ (.int .i64 D)).setCell ⟨w.heap.size + 2, 5, none⟩ (.int .i64 Wy)).heap.size := by simp [World.setCell]
  have P6 := P5.out
  rw [hsz] at P6
  have HP := hidH P6
  clear P6 P5 hsz
  clear p1 p2 p3 p4 p5 p6 p7 p8 q0 f0 q1 f1 q2 f2 q3 f3 q4 f4 q5 f5 q6 f6 q7 f7 q8 f8 K0 K1 K2 HR B1
  generalize ((((((w1.setCell ⟨w.heap.size + 2, 0, none⟩ (.slice ua zs.length uc)).setCell ⟨w.heap.size + 2, 1, none⟩ (.int .i64 F)).setCell ⟨w.heap.size + 2, 2, none⟩ (.int .i64 C)).setCell ⟨w.heap.size + 2, 3, none⟩ (.int .i64 Wd)).setCell ⟨w.heap.size + 2, 4, none⟩ (.int .i64 D)).setCell ⟨w.heap.size + 2, 5, none⟩ (.int .i64 Wy)) = w6 at *
  refine (HT.out _).mono ?_; rintro e w7 ⟨rfl, hb⟩
  have H7 := below_job HP.out hb
  have q6 := H7.1.cell 6 _ rfl
  have f6 := H7.1.free 6
  have q7 := H7.1.cell 7 _ rfl
  have f7 := H7.1.free 7
  have q8 := H7.1.cell 8 _ rfl
  have f8 := H7.1.free 8
  have Q6 := put_job H7 (by omega) (by omega) (by omega) 6 (.int .i64 R) (#[.slice ua zs.length uc, .int .i64 F, .int .i64 C, .int .i64 Wd, .int .i64 D, .int .i64 Wy, .int .i64 R, .int .i64 0, .int .i64 0] : Array Value) rfl
  have Q7 := put_job Q6 (by omega) (by omega) (by omega) 7 (.int .i64 A) (#[.slice ua zs.length uc, .int .i64 F, .int .i64 C, .int .i64 Wd, .int .i64 D, .int .i64 Wy, .int .i64 R, .int .i64 A, .int .i64 0] : Array Value) rfl
  have Q8 := hidH (put_job Q7 (by omega) (by omega) (by omega) 8 (.int .i64 Wi) (#[.slice ua zs.length uc, .int .i64 F, .int .i64 C, .int .i64 Wd, .int .i64 D, .int .i64 Wy, .int .i64 R, .int .i64 A, .int .i64 Wi] : Array Value) rfl)
  have SZ := hidH (job_size (.slice ua zs.length uc) F C Wd D Wy R A Wi)
  clear hb H7 Q6 Q7
  unfold jobC at SZ
  go_wp2_with (first
    | (refine wpList_load_row rfl 32 _ rfl (w.heap.size + 2) rfl 32 #[.slice ua zs.length uc, .int .i64 F, .int .i64 C, .int .i64 Wd, .int .i64 D, .int .i64 Wy, .int .i64 R, .int .i64 A, .int .i64 Wi] (0, 0) _ Q8.out.1 Try.underlying32 rfl SZ.out ?_)
    | (refine wpList_store_row rfl 32 _ _ rfl (w.heap.size + 1) #[.slice ua zs.length uc, .int .i64 F, .int .i64 C, .int .i64 Wd, .int .i64 D, .int .i64 Wy, .int .i64 R, .int .i64 A, .int .i64 Wi] rfl rfl 32 _ Q8.out.2.1 SZ.out rfl (by simp [Value.oneCell']) ?_))
  refine bodyPost_ret (results_cell_row Try.results6 _ _ (w.heap.size + 1) 32 _ (0, 0) _ rfl (Q8.out.2.1.setRow _) Try.underlying32 rfl SZ.out) rfl ?_
  exact ⟨ua, uc, rfl, ((Q8.out.2.2.1.apart (Apart.of_onto (lo := w.heap.size + 1) (hi := w.heap.size + 2) (ontoRow (w.heap.size + 1) _ _) (Nat.le_refl _) (Nat.lt_succ_self _)) (.inr (by omega))).mono (by omega) (by simp [World.setCell])), bRow Q8.out.2.2.2 (by omega) _⟩
end Go.Proofs.Ytieealgmmkkgoaa
