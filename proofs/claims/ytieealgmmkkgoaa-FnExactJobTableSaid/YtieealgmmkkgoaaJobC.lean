/-
  JobTime: the program, at every argument. No conditions but that slices fit in memory.
-/
import Derived.Test.YtieealgmmkkgoaaJobB
namespace Go.Proofs.Ytieealgmmkkgoaa
set_option maxRecDepth 4000
open Go.RowKit
/-- What JobTime answers. -/
def jobT (zs : List Int) (F C Wd D Wy R A Wi : Int) : Int := if jobOk zs F C Wd D Wy R A Wi then wrap64 (wrap64 ((zs.length : Int) * Wd) + C) else -1
theorem job_size (v : Value) (F C Wd D Wy R A Wi : Int) : (Try.prog.info? 32).map (·.size) = some (jobC v F C Wd D Wy R A Wi).size := by
  rw [show (jobC v F C Wd D Wy R A Wi).size = 9 from rfl]
  kernel_rfl
end Go.Proofs.Ytieealgmmkkgoaa
