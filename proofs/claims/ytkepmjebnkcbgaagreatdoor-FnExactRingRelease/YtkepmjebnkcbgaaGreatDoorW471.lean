/-
  Whether a release is sealed by a key: ReleaseOk of both.
-/
import Derived.Test.YtkepmjebnkcbgaaGreatDoorGW186
import Derived.Test.YtkepmjebnkcbgaaGreatDoorGLSealOf
import Derived.Test.YtkepmjebnkcbgaaGreatDoorW189
namespace Go.Proofs.YtkepmjebnkcbgaaGreatDoor
open Go.RowKit
set_option linter.unusedVariables false
end Go.Proofs.YtkepmjebnkcbgaaGreatDoor
