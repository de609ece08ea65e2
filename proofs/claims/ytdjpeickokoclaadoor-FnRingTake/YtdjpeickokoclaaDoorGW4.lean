/-
  What small functions on texts tell: whether one begins or ends with another one, is a flag, is a part of an affix.
-/
import Derived.Test.YtdjpeickokoclaaDoorProg
import Derived.Test.YtdjpeickokoclaaDoorGW2
import Derived.Test.YtdjpeickokoclaaDoorGM3
import Derived.Deep.QuietTactic
import Derived.BigQuiet
import Derived.WalkKit
import Derived.WalkSpells
import Derived.WalkLawsBesides
namespace Go.Proofs.YtdjpeickokoclaaDoor
open Go.RowKit
set_option linter.unusedVariables false
end Go.Proofs.YtdjpeickokoclaaDoor
/-
  What endTurned tells: whether the last two letters of two texts are each other's turned.
-/
namespace Go.Proofs.YtdjpeickokoclaaDoor
open Go.RowKit
set_option linter.unusedVariables false
end Go.Proofs.YtdjpeickokoclaaDoor
