/-
  The law FnExactBookOk.
-/
import Derived.Test.YtcnnjbiambccdaaGreatDoorGW78
import Derived.Test.YtcnnjbiambccdaaGreatDoorW71
namespace Go.Proofs.YtcnnjbiambccdaaGreatDoor
open Go.RowKit
set_option linter.unusedVariables false
end Go.Proofs.YtcnnjbiambccdaaGreatDoor
