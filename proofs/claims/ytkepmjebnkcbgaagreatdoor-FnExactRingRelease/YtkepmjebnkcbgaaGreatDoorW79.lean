/-
  The law FnExactBookOk.
-/
import Derived.Test.YtkepmjebnkcbgaaGreatDoorGW78
import Derived.Test.YtkepmjebnkcbgaaGreatDoorW71
namespace Go.Proofs.YtkepmjebnkcbgaaGreatDoor
open Go.RowKit
set_option linter.unusedVariables false
end Go.Proofs.YtkepmjebnkcbgaaGreatDoor
