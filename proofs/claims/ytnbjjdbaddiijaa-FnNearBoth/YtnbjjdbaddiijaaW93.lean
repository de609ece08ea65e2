/-
  The law FnExactNear out of contracts of both answers.
-/
import Derived.Test.YtnbjjdbaddiijaaW92
namespace Go.Proofs.Ytnbjjdbaddiijaa
open Go.RowKit
set_option linter.unusedVariables false
