/-
  A book that a law is given, opened.
-/
import Derived.Test.YtdjpeickokoclaaDoorW70
import Derived.Deep.SlicePairs
import Derived.WalkKit
import Derived.ProofKit
import Derived.OpenShut
import Derived.ShutString
import Derived.ChangeOld
import Derived.ChangeArms
namespace Go.Proofs.YtdjpeickokoclaaDoor
open Go.ChangeShapes Go.WideShapes Go.ChangeAt Go.RowKit
set_option linter.unusedVariables false
instance : Inhabited Aff := ⟨⟨.empty, false, .empty, .empty, .empty⟩⟩
end Go.Proofs.YtdjpeickokoclaaDoor
