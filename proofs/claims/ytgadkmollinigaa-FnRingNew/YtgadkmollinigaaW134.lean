/-
  Affixes and entries that are one's own memory: copied so, and marked.
-/
import Derived.Test.YtgadkmollinigaaW119
import Derived.Test.YtgadkmollinigaaGW74
import Derived.Test.YtgadkmollinigaaGW92
namespace Go.Proofs.Ytgadkmollinigaa
open Go.RowKit
set_option linter.unusedVariables false
theorem markT_fit (n : Nat) : (markT n).size ≤ maxLen := by have := markT_size n; unfold maxLen; omega
end Go.Proofs.Ytgadkmollinigaa
