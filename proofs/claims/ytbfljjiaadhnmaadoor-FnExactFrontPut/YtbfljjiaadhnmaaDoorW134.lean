/-
  Affixes and entries that are one's own memory: copied so, and marked.
-/
import Derived.Test.YtbfljjiaadhnmaaDoorW119
import Derived.Test.YtbfljjiaadhnmaaDoorGW74
import Derived.Test.YtbfljjiaadhnmaaDoorGW92
namespace Go.Proofs.YtbfljjiaadhnmaaDoor
open Go.RowKit
set_option linter.unusedVariables false
theorem markT_fit (n : Nat) : (markT n).size ≤ maxLen := by have := markT_size n; unfold maxLen; omega
end Go.Proofs.YtbfljjiaadhnmaaDoor
