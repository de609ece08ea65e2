/-
  strings.Builder: copyCheck, WriteString.
-/
import Derived.Test.YtdjpeickokoclaaProg
import Derived.WalkKit
import Derived.WalkSpells
import Derived.WalkLawsBesides
import Derived.Lib.OthersKept
import Derived.Lib.Builder
import Derived.Lib.OwnKind
import Derived.Lib.AppendStr
namespace Go.Proofs.Ytdjpeickokoclaa
open Go.RowKit
set_option linter.unusedVariables false
end Go.Proofs.Ytdjpeickokoclaa
