/-
  Whether a wheel of a row is marked. No conditions but that the row has twelve wheels.
-/
import Derived.Test.YtffmhcahiabicaaDoorRowC
import Derived.ChangeKeysEq
namespace Go.Proofs.YtffmhcahiabicaaDoor
set_option maxRecDepth 4000
open Go.RowKit
theorem items_zero (d : Nat) (A : List Int) (w : World) : ∀ (is : List Nat), (∀ i ∈ is, i < A.length) →
    (Op.eqItems (d + 1) 3 (Tryd.prog.cellsOf 3) (A.map (Value.int .i64)).toArray (List.replicate A.length (Value.int .i64 0)).toArray is).run Tryd.prog w = .ok (is.all fun i => A.getD i 0 == 0) w := by
  have hk : Tryd.prog.plainKey 3 = true := by kernel_rfl
  have hc : Tryd.prog.cellsOf 3 = 1 := by kernel_rfl
  rw [hc]
  intro is
  induction is with
  | nil => intro _; rfl
  | cons i is ih =>
    intro h
    have hi := h i (by simp)
    have e1 : (A.map (Value.int .i64)).toArray[i * 1]? = some (.int .i64 (A.getD i 0)) := by
      simp [List.getD, List.getElem?_eq_getElem hi]
    have e2 : (List.replicate A.length (Value.int .i64 0)).toArray[i * 1]? = some (.int .i64 0) := by
      simp [hi]
    have ih' := ih fun j hj => h j (by simp [hj])
    simp only [Op.eqItems, Sem.run_bind]
    rw [run_part_plain w hk e1]
    simp only [Result.andThen_ok]
    rw [run_part_plain w hk e2]
    simp only [Result.andThen_ok]
    rw [run_equalIn_int w d 3 .i64 .i64 _ _ Tryd.underlying3]
    simp only [Result.andThen_ok]
    cases hb : (A.getD i 0 == 0)
    · simp only [Bool.not_false, if_true, Sem.run_pure, List.all_cons, hb, Bool.false_and]
    · simp only [Bool.not_true, Bool.false_eq_true, if_false, List.all_cons, hb, Bool.true_and]
      exact ih'
theorem eq12 (w : World) (p0 p1 p2 p3 p4 p5 p6 p7 p8 p9 p10 p11 : Int) :
    (Op.equalIn 10000 122 (.agg #[.int .i64 p0, .int .i64 p1, .int .i64 p2, .int .i64 p3, .int .i64 p4, .int .i64 p5, .int .i64 p6, .int .i64 p7, .int .i64 p8, .int .i64 p9, .int .i64 p10, .int .i64 p11]) (.agg #[.int .i64 0, .int .i64 0, .int .i64 0, .int .i64 0, .int .i64 0, .int .i64 0, .int .i64 0, .int .i64 0, .int .i64 0, .int .i64 0, .int .i64 0, .int .i64 0])).run Tryd.prog w = .ok ([p0, p1, p2, p3, p4, p5, p6, p7, p8, p9, p10, p11].all (· == 0)) w := by
  have hinfo : ∃ i, Tryd.prog.info? 3 = some i := by
    have h : (Tryd.prog.info? 3).isSome = true := by kernel_rfl
    exact Option.isSome_iff_exists.1 h
  obtain ⟨i, hi⟩ := hinfo
  have h1 := run_equalIn_array w 9999 (([p0, p1, p2, p3, p4, p5, p6, p7, p8, p9, p10, p11] : List Int).map (Value.int .i64)).toArray (List.replicate 12 (Value.int .i64 0)).toArray Tryd.underlying122 hi
  have h2 := items_zero 9998 [p0, p1, p2, p3, p4, p5, p6, p7, p8, p9, p10, p11] w (List.range 12) (fun i hi => by simpa using hi)
  exact h1.trans h2
end Go.Proofs.YtffmhcahiabicaaDoor
