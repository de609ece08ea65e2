/-
  The law FnExactBookOk.
-/
import Derived.Test.YtcdgikhkjpneiaaGreatDoorGW78
import Derived.Test.YtcdgikhkjpneiaaGreatDoorW71
namespace Go.Proofs.YtcdgikhkjpneiaaGreatDoor
open Go.RowKit
set_option linter.unusedVariables false
end Go.Proofs.YtcdgikhkjpneiaaGreatDoor
