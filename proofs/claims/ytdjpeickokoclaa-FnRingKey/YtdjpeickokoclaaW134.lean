/-
  Affixes and entries that are one's own memory: copied so, and marked.
-/
import Derived.Test.YtdjpeickokoclaaW119
import Derived.Test.YtdjpeickokoclaaGW74
import Derived.Test.YtdjpeickokoclaaGW92
namespace Go.Proofs.Ytdjpeickokoclaa
open Go.RowKit
set_option linter.unusedVariables false
end Go.Proofs.Ytdjpeickokoclaa
