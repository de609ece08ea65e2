/-
  Affixes and entries that are one's own memory: copied so, and marked.
-/
import Derived.Test.YtlmkilfffpdpfaaW119
import Derived.Test.YtlmkilfffpdpfaaGW74
import Derived.Test.YtlmkilfffpdpfaaGW92
namespace Go.Proofs.Ytlmkilfffpdpfaa
open Go.RowKit
set_option linter.unusedVariables false
theorem markT_fit (n : Nat) : (markT n).size ≤ maxLen := by have := markT_size n; unfold maxLen; omega
end Go.Proofs.Ytlmkilfffpdpfaa
