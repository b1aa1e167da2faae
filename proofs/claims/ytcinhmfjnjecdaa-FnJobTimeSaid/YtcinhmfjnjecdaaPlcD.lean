/-
  The walks of the exact laws of LayoutValid, PagesNeeded, PlaceOf and IndexOfPlace. No conditions.
-/
import Derived.Test.YtcinhmfjnjecdaaPlcC
namespace Go.Proofs.Ytcinhmfjnjecdaa
set_option maxRecDepth 4000
open Go.RowKit
theorem lay_size (a b c : Value) : (Try.prog.info? 36).map (·.size) = some (#[a, b, c] : Array Value).size := by
  rw [show (#[a, b, c] : Array Value).size = 3 from rfl]
  kernel_rfl
theorem layoutValid_gives (R A W : Int) (w : World) : Calls Try.prog 51 #[layV R A W] w (Gives (.bool (layOk R A W)) w) :=
  (layoutValid_any R A W w).mono fun _ _ ⟨a, b⟩ => ⟨a, by rw [b]; exact bMore (Below.refl _ _) _⟩
theorem sLayoutValid_gives (R A W : Int) (w : World) : Calls Try.prog 63 #[layV R A W] w (Gives (.bool (layOk R A W)) w) :=
  (sLayoutValid_any R A W w).mono fun _ _ ⟨a, b⟩ => ⟨a, by rw [b]; exact bMore (Below.refl _ _) _⟩
end Go.Proofs.Ytcinhmfjnjecdaa
