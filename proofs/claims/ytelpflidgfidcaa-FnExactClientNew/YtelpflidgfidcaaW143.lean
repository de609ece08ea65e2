/-
  Arguments of laws, opened: slices of affixes, of texts; an entry.
-/
import Derived.Test.YtelpflidgfidcaaW71
import Derived.Test.YtelpflidgfidcaaW110
import Derived.WalkKit
import Derived.ProofKit
import Derived.OpenShut
import Derived.ShutString
import Derived.ChangeOld
import Derived.Below
namespace Go.Proofs.Ytelpflidgfidcaa
open Go.ChangeShapes Go.WideShapes Go.ChangeAt Go.RowKit
set_option linter.unusedVariables false
end Go.Proofs.Ytelpflidgfidcaa
