/-
  The law FnExactBookOk.
-/
import Derived.Test.YtcfpbjhfhdcjoaaGreatDoorW78
import Derived.Test.YtcfpbjhfhdcjoaaGreatDoorW71
namespace Go.Proofs.YtcfpbjhfhdcjoaaGreatDoor
open Go.RowKit
set_option linter.unusedVariables false
end Go.Proofs.YtcfpbjhfhdcjoaaGreatDoor
