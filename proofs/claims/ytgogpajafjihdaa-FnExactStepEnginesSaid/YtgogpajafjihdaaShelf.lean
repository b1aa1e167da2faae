/-
  The numbers under which the library functions that a column is tested by stand in this translation, and that their texts are the ones of which the contracts speak. No conditions.
-/
import Derived.Test.YtgogpajafjihdaaProg
import Derived.WalkKit
import Derived.Shelf.Lays
import Derived.Shelf.Strings.SlTrimAscii
namespace Go.Proofs.Ytgogpajafjihdaa
open Go.Shelf

end Go.Proofs.Ytgogpajafjihdaa
