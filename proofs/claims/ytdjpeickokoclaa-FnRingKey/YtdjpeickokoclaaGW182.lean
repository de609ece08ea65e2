/-
  strings.Join at five texts, with a blank between.
-/
import Derived.Test.YtdjpeickokoclaaW80
import Derived.Test.YtdjpeickokoclaaShelf
import Derived.Deep.OwnRows
namespace Go.Proofs.Ytdjpeickokoclaa
open Go.RowKit
set_option linter.unusedVariables false
end Go.Proofs.Ytdjpeickokoclaa
/-
  strings.Join at three texts, with a blank between.
-/
namespace Go.Proofs.Ytdjpeickokoclaa
open Go.RowKit
set_option linter.unusedVariables false
end Go.Proofs.Ytdjpeickokoclaa
