/-
  Affixes and entries that are one's own memory: copied so, and marked.
-/
import Derived.Test.YtdjpeickokoclaaDoorW119
import Derived.Test.YtdjpeickokoclaaDoorGW74
import Derived.Test.YtdjpeickokoclaaDoorGW92
namespace Go.Proofs.YtdjpeickokoclaaDoor
open Go.RowKit
set_option linter.unusedVariables false
end Go.Proofs.YtdjpeickokoclaaDoor
