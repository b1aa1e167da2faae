/-
  Jobs in memory.
-/
import Derived.Test.YtcinhmfjnjecdaaEngG
import Derived.Test.YtcinhmfjnjecdaaEngH
import Derived.Test.YtcinhmfjnjecdaaPlcD
import Derived.Test.YtcinhmfjnjecdaaRndC
import Derived.Test.YtcinhmfjnjecdaaRndB
import Derived.Test.YtcinhmfjnjecdaaHeld
namespace Go.Proofs.Ytcinhmfjnjecdaa
set_option maxRecDepth 4000
open Go.RowKit
/-- A job as a value. -/
def jobC (v : Value) (F C Wd D Wy R A Wi : Int) : Array Value := #[v, .int .i64 F, .int .i64 C, .int .i64 Wd, .int .i64 D, .int .i64 Wy, .int .i64 R, .int .i64 A, .int .i64 Wi]
def jobV (v : Value) (F C Wd D Wy R A Wi : Int) : Value := .agg (jobC v F C Wd D Wy R A Wi)
def jobOk (zs : List Int) (F C Wd D Wy R A Wi : Int) : Bool := setB zs F Wd && (wayOk D Wy && (decide ((1 : Int) ≤ C ∧ C ≤ 60) && ((capA zs F Wd C == C) && layOk R A Wi)))
/-- A struct of three numbers inside a greater one. -/
theorem load_lay (w : World) (b o : Nat) (R A W : Int) (h0 : w.cell? ⟨b, o, none⟩ = some (.int .i64 R)) (h1 : w.cell? ⟨b, o + 1, none⟩ = some (.int .i64 A)) (h2 : w.cell? ⟨b, o + 2, none⟩ = some (.int .i64 W)) : (loadVar 36 ⟨b, o, none⟩).run Try.prog w = .ok (layV R A W) w := by
  have hl : (loadCells ⟨b, o, none⟩ [Value.int .i64 R, .int .i64 A, .int .i64 W].length).run Try.prog w = .ok [Value.int .i64 R, .int .i64 A, .int .i64 W].toArray w :=
    run_loadCells_list (P := Try.prog) w ⟨b, o, none⟩ _ (fun j v hv => by
      have e : (⟨b, o, none⟩ : Addr).add j = ⟨b, o + j, none⟩ := by simp [Addr.add]
      rw [e]
      match j, hv with
      | 0, hv => injection hv with hv; subst hv; exact h0
      | 1, hv => injection hv with hv; subst hv; exact h1
      | 2, hv => injection hv with hv; subst hv; exact h2)
  have hq : (Try.prog.info? 36).map (·.size) = some 3 := by kernel_rfl
  cases hi : Try.prog.info? 36 with
  | none => simp [hi] at hq
  | some i =>
    have hs : i.size = 3 := by simpa [hi] using hq
    have hagg : (isAgg 36).run Try.prog w = .ok true w := by
      unfold isAgg
      rw [Sem.run_bind, run_underlying Try.underlying36 w]
      simp
    simp only [List.length_cons, List.length_nil] at hl
    simp [loadVar, Sem.run_bind, hagg, sizeOf, typeInfo, hi, hs, hl, layV]
end Go.Proofs.Ytcinhmfjnjecdaa
