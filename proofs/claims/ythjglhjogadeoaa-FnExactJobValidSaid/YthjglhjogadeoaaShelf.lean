/-
  Nothing: this translation holds no library function that a column is tested by. No conditions.
-/
import Derived.Test.YthjglhjogadeoaaProg
namespace Go.Proofs.Ythjglhjogadeoaa
end Go.Proofs.Ythjglhjogadeoaa
