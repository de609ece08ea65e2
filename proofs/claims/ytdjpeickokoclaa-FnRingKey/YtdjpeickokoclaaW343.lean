/-
  strings.Builder: copyCheck and WriteByte, by themselves.
-/
import Derived.Test.YtdjpeickokoclaaProg
import Derived.Test.YtdjpeickokoclaaShelf
import Derived.WalkKit
import Derived.WalkSpells
import Derived.WalkLawsBesides
import Derived.Lib.SmallJoins
import Derived.Deep.WholeRow
import Derived.Deep.OwnRows
import Derived.Deep.AppendLies
import Derived.Lib.OthersKept
import Derived.Lib.Builder
import Derived.Lib.OwnKind
namespace Go.Proofs.Ytdjpeickokoclaa
open Go.RowKit
set_option linter.unusedVariables false
end Go.Proofs.Ytdjpeickokoclaa
