/-
  Nothing: this seat has no strings.Trim.
-/
import Derived.Test.YtcinhmfjnjecdaaProg
namespace Go.Proofs.Ytcinhmfjnjecdaa
end Go.Proofs.Ytcinhmfjnjecdaa
