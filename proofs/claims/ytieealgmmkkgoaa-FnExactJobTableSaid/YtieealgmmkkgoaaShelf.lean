/-
  Nothing: this translation holds no library function that a column is tested by. No conditions.
-/
import Derived.Test.YtieealgmmkkgoaaProg
namespace Go.Proofs.Ytieealgmmkkgoaa
end Go.Proofs.Ytieealgmmkkgoaa
